/-
  Layer 8: the contract of the reference's Fleet. Layer 8: the contract of the reference's Clocks. Layer 8: what ClockTicks asks, plain: readings of a valid clock; the made clocks are valid. Layer 8: Find, plain; the chapter's examples that the law's sane asks. Layer 8: the walk of ClockTicks, over whatever keeps the contracts of sane and Reading. Layer 8: the maker of traces: its state, plain and in memory. Layer 8: the law's same: whether two lists of constraints are equal. Layer 8: the law's single and sane, over whatever keeps the contracts of the program's functions. Layer 8, the program: lastBegun, Reading. Layer 8, the program: Reading. Layer 8, the program: the map of tests. Layer 8, the program: fieldTests. Layer 8, the program: isEvent, Event. Layer 8, the program: Event, Events. Layer 8, the program: what its rules admit. Layer 8, the program: its rules.
-/
import Derived.Test.YtamefmojocegkaaDoorProg
import Derived.Test.YtamefmojocegkaaDoorK01
import Derived.Test.YtamefmojocegkaaDoorK02
import Derived.Lib.QuietBelow
import Derived.StillTail
import Derived.WalkKit
import Derived.WalkLawsBesides
import Derived.Outline
import Derived.Lib.Hide
import Derived.Below
import Derived.BigQuiet
import Derived.Deep.QuietTactic
import Derived.Deep.RegionHeld3
import Derived.Deep.DeepCutAuto
import Derived.Laws.Rows
import Derived.Laws.OwnMore
import Derived.OwnWalk
import Derived.Laws.StructEq
import Derived.Maps.Own
import Derived.Maps.OwnOps
set_option maxRecDepth 100000
set_option maxHeartbeats 16000000
namespace Go.Proofs.YtamefmojocegkaaDoor
open Go Go.Proofs Go.RowKit Go.Lib
def latT (k : Int) : Int := if k = 0 then 0 else if k = 1 then 1 else if k = 2 then 500000 else 1000000
def driT (k : Int) : Int := if k = 0 then 0 else if k = 1 then 1 else if k = 2 then 200 else 1000
def agN (n : Int) : Nat := 2 + (pick8 (n.tdiv 4) 3).toNat
def driN (n : Int) (m : Nat) : List Int := (List.range m).map fun i => driT (pick8 (n.tdiv 12 + (i : Nat)) 4)
def fleetN (n : Int) : Fl := ⟨driN n (agN n), latT (pick8 n 4), pick8 (n.tdiv 48) (if 3 ≤ agN n then 3 else 2), [0, 1, 2, 0, 1, 2], [0, 1, 1]⟩
theorem driN_step (n : Int) (m : Nat) : driN n (m + 1) = driN n m ++ [driT (pick8 (n.tdiv 12 + (m : Nat)) 4)] := by unfold driN; rw [List.range_succ, List.map_append]; rfl
theorem driN_len (n : Int) (m : Nat) : (driN n m).length = m := by unfold driN; simp
theorem driT_bd (k : Int) : 0 ≤ driT k ∧ driT k ≤ 1000 := by unfold driT; repeat' split <;> omega
theorem agN_bd (n : Int) : 2 ≤ agN n ∧ agN n ≤ 4 := by
 unfold agN
 have h1 := pick8_lo (c := n.tdiv 4) (n := 3) (by decide)
 have h2 := pick8_hi (c := n.tdiv 4) (n := 3) (by decide)
 omega
theorem tdiv8 {n : Int} (h0 : -9223372036854775808 ≤ n) (h1 : n ≤ 9223372036854775807) (k : Int) (hk : 2 ≤ k) : -4611686018427387904 ≤ n.tdiv k ∧ n.tdiv k ≤ 4611686018427387904 := by
 have e : k * n.tdiv k + n.tmod k = n := Int.mul_tdiv_add_tmod n k
 rcases Int.le_total 0 n with h | h
 · have a1 := Int.tdiv_nonneg h (show 0 ≤ k by omega)
   have a2 := Int.tmod_nonneg k h
   have a3 : 2 * n.tdiv k ≤ k * n.tdiv k := Int.mul_le_mul_of_nonneg_right hk a1
   omega
 · have e2 : n.tdiv k = -((-n).tdiv k) := by rw [Int.neg_tdiv, Int.neg_neg]
   have a1 := Int.tdiv_nonneg (show 0 ≤ -n by omega) (show 0 ≤ k by omega)
   have a2 := Int.tmod_nonneg k (show 0 ≤ -n by omega)
   have e3 : k * (-n).tdiv k + (-n).tmod k = -n := Int.mul_tdiv_add_tmod (-n) k
   have a3 : 2 * (-n).tdiv k ≤ k * (-n).tdiv k := Int.mul_le_mul_of_nonneg_right hk a1
   omega
theorem wrapq8 {x : Int} (h : -9223372036854775808 ≤ x ∧ x ≤ 9223372036854775807) : IntKind.i64.wrap x = x := IntWalk.i64_in _ (by omega)
def FlPost (w : World) (f : Fl) (e : Ending) (w' : World) : Prop := ∃ a1 c1 a2 c2 a3 c3, e = .returned (.agg #[.slice a1 f.dr.length c1, .int .i64 f.lat, .int .i64 f.lia, .slice a2 f.sv.length c2, .slice a3 f.tm.length c3]) ∧ RN KI w' w.heap.size a1 f.dr ∧ RN KI w' w.heap.size a2 f.sv ∧ RN KI w' w.heap.size a3 f.tm ∧ Below w.heap.size w w'
theorem CellsAt.rn {W : World} {base g : Nat} {l : List Int} (h : CellsAt W g (KI.vs l)) (hb : base ≤ g) (hg : g < W.heap.size) : RN KI W base (some ⟨g, 0, none⟩) l := by
 refine .inr ⟨g, 0, rfl, hb, hg, fun i hi j hj => ?_⟩
 have hj0 : j = 0 := by have : KI.n = 1 := rfl; omega
 subst hj0
 have hl : (KI.vs l).length = l.length := by rw [KI.vs_length]; show l.length * 1 = _; omega
 have e : 0 + KI.n * i + 0 = i := by show 0 + 1 * i + 0 = i; omega
 rw [e, (h i (by omega)).1]
 have := KI.vs_get l i 0 hi (by decide)
 rw [show KI.n * i + 0 = i by show 1 * i + 0 = i; omega, List.getElem?_eq_getElem (by omega)] at this
 exact this
theorem lit4 {W : World} {T : Nat} {a b c d : Value} (h : CellsAt W T [a, b, c, d]) (q : Nat) (hq : q < 4) : W.cell? ⟨T, q, none⟩ = some ([a, b, c, d][q]'(by simpa using hq)) := (h q (by simpa using hq)).1
theorem at_lit4 (g c : Nat) (q : Nat) (hq : q < 4) (w : World) : (Instr.indexAt 22 (.slice (some ⟨g, 0, none⟩) 4 c) (.int .i64 (q : Int))).run Tryd.prog w = .ok (.pointer (some ⟨g, q, none⟩)) w := by
 have := at_int8 g 0 4 c q hq w
 rwa [Nat.zero_add] at this
theorem latT_lit (q : Nat) (hq : q < 4) : ([Value.int .i64 0, .int .i64 1, .int .i64 500000, .int .i64 1000000][q]'(by simpa using hq)) = .int .i64 (latT q) := by
 have h : q = 0 ∨ q = 1 ∨ q = 2 ∨ q = 3 := by omega
 rcases h with rfl | rfl | rfl | rfl <;> rfl
theorem driT_lit (q : Nat) (hq : q < 4) : ([Value.int .i64 0, .int .i64 1, .int .i64 200, .int .i64 1000][q]'(by simpa using hq)) = .int .i64 (driT q) := by
 have h : q = 0 ∨ q = 1 ∨ q = 2 ∨ q = 3 := by omega
 rcases h with rfl | rfl | rfl | rfl <;> rfl
theorem fl_done8 {w wr : World} {B : Nat} {ad : Option Addr} {k cp : Nat} {lat lia : Int} {dr : List Int} (hrn : RN KI wr (B + 5) ad dr)
 (hs : CellsAt wr (B + 2) [.int .i64 0, .int .i64 1, .int .i64 2, .int .i64 0, .int .i64 1, .int .i64 2]) (ht : CellsAt wr (B + 3) [.int .i64 0, .int .i64 1, .int .i64 1])
 (hr : CellsAt wr B [.slice none 0 0, .int .i64 0, .int .i64 0, .slice none 0 0, .slice none 0 0]) (hb : Below B w wr) (hz : B + 5 ≤ wr.heap.size) :
 ∃ WF, WF = ((((((wr.setCell ⟨B + 4, 2, none⟩ (.int .i64 lia)).setCell ⟨B, 0, none⟩ (.slice ad k cp)).setCell ⟨B, 1, none⟩ (.int .i64 lat)).setCell ⟨B, 2, none⟩ (.int .i64 lia)).setCell ⟨B, 3, none⟩ (.slice (some ⟨B + 2, 0, none⟩) 6 6)).setCell ⟨B, 4, none⟩ (.slice (some ⟨B + 3, 0, none⟩) 3 3)) ∧
 CellsAt WF B [.slice ad k cp, .int .i64 lat, .int .i64 lia, .slice (some ⟨B + 2, 0, none⟩) 6 6, .slice (some ⟨B + 3, 0, none⟩) 3 3] ∧
 RN KI WF B ad dr ∧ RN KI WF B (some ⟨B + 2, 0, none⟩) [0, 1, 2, 0, 1, 2] ∧ RN KI WF B (some ⟨B + 3, 0, none⟩) [0, 1, 1] ∧ Below B w WF := by
 refine ⟨_, rfl, ?_, ?_, ?_, ?_, ?_⟩
 · exact (((((hr.far (A := B + 4) (by omega)).put 0 _).put 1 _).put 2 _).put 3 _).put 4 _
 · exact ((((((hrn.far (by omega)).far (by omega)).far (by omega)).far (by omega)).far (by omega)).far (by omega)).base (by omega)
 · exact CellsAt.rn (l := [0, 1, 2, 0, 1, 2]) ((((((hs.far (by omega)).far (by omega)).far (by omega)).far (by omega)).far (by omega)).far (by omega)) (by omega) (by simp; omega)
 · exact CellsAt.rn (l := [0, 1, 1]) ((((((ht.far (by omega)).far (by omega)).far (by omega)).far (by omega)).far (by omega)).far (by omega)) (by omega) (by simp; omega)
 · exact (((((hb.setCell (by simp) _).setCell (by simp) _).setCell (by simp) _).setCell (by simp) _).setCell (by simp) _).setCell (by simp) _
theorem fleetR_any (n : Int) (h0 : -9223372036854775808 ≤ n) (h1 : n ≤ 9223372036854775807) (w : World) :
    Calls Tryd.prog 34 #[.int .i64 n] w (FlPost w (fleetN n)) := by
  have p0 := pick8_lo (c := n) (n := 4) (by decide)
  have p1 := pick8_hi (c := n) (n := 4) (by decide)
  obtain ⟨q, hq⟩ := Int.eq_ofNat_of_zero_le p0
  have hq4 : q < 4 := by omega
  have q4 := tdiv8 h0 h1 4 (by decide)
  have q12 := tdiv8 h0 h1 12 (by decide)
  have q48 := tdiv8 h0 h1 48 (by decide)
  have hw4 := wrapq8 (x := n.tdiv 4) (by omega)
  have hw12 := wrapq8 (x := n.tdiv 12) (by omega)
  have hw48 := wrapq8 (x := n.tdiv 48) (by omega)
  have HP := Lib.hid (fun W => pickR8_any n 4 h0 h1 (by decide) (by decide) W)
  have HP3 := Lib.hid (fun W => pickR8_any (n.tdiv 4) 3 (by omega) (by omega) (by decide) (by decide) W)
  have HP4 := Lib.hid (fun (i : Nat) (hi : i ≤ 4) W => pickR8_any (n.tdiv 12 + (i : Nat)) 4 (by omega) (by omega) (by decide) (by decide) W)
  have HPL := Lib.hid (fun (k : Int) (hk : 2 ≤ k) (hk2 : k ≤ 3) W => pickR8_any (n.tdiv 48) k (by omega) (by omega) (by omega) (by omega) W)
  obtain ⟨b3, hb3⟩ : ∃ b3 : Int, (if 3 ≤ agN n then (3 : Int) else 2) = b3 := ⟨_, rfl⟩
  have HFL : fleetN n = ⟨driN n (agN n), latT q, pick8 (n.tdiv 48) b3, [0, 1, 2, 0, 1, 2], [0, 1, 1]⟩ := by unfold fleetN; rw [hq, hb3]
  rw [hq] at HP
  have d0 := pick8_lo (c := n.tdiv 4) (n := 3) (by decide)
  have d1 := pick8_hi (c := n.tdiv 4) (n := 3) (by decide)
  obtain ⟨d, hd⟩ := Int.eq_ofNat_of_zero_le d0
  rw [hd] at HP3 d1
  have HM : agN n = 2 + d := by unfold agN; rw [hd]; rfl
  rw [HFL, HM]
  rw [HM] at hb3
  have HB3 := Lib.hid hb3
  clear hb3
  have hd2 : d ≤ 2 := by omega
  have HWR := Lib.hid (fun (i : Nat) (hi : i ≤ 4) => (wrapq8 (x := n.tdiv 12 + (i : Nat)) (by omega)))
  clear hd d0 d1 HM HFL hq p0 p1 q4 q12 q48
  obtain ⟨w1, V1, Z1, K1, B1⟩ := lay8 w [.slice none 0 0, .int .i64 0, .int .i64 0, .slice none 0 0, .slice none 0 0] 24
  obtain ⟨w2, V2, Z2, K2, B2⟩ := lay8 w1 [.int .i64 0, .int .i64 1, .int .i64 500000, .int .i64 1000000] 3
  obtain ⟨w3, V3, Z3, K3, B3⟩ := lay8 w2 [.int .i64 0, .int .i64 1, .int .i64 2, .int .i64 0, .int .i64 1, .int .i64 2] 3
  obtain ⟨w4, V4, Z4, K4, B4⟩ := lay8 w3 [.int .i64 0, .int .i64 1, .int .i64 1] 3
  obtain ⟨w5, V5, Z5, K5, B5⟩ := lay8 w4 [.slice none 0 0, .int .i64 (latT q), .int .i64 0, .slice (some ⟨w.heap.size + 2, 0, none⟩) 6 6, .slice (some ⟨w.heap.size + 3, 0, none⟩) 3 3] 24
  rw [Z1] at Z2 K2 B2
  rw [Z2] at Z3 K3 B3
  rw [Z3] at Z4 K4 B4
  rw [Z4] at Z5 K5 B5
  simp only [Nat.add_assoc, Nat.reduceAdd] at Z2 Z3 Z4 Z5 K3 K4 K5 B3 B4 B5
  have hT := (lit4 K2 q hq4).trans (congrArg some (latT_lit q hq4))
  have hik := fun W => at_lit4 (w.heap.size + 1) 4 q hq4 W
  clear hq4
  go_enter Tryd.func34, Tryd.ntmps34
  go_wp2_with fail
  refine (HP.out _).mono ?_
  rintro e z ⟨rfl, rfl⟩
  go_wp2_with fail

  have HF5 := Lib.hid K5
  have HB5 := Lib.hid (show Below w.heap.size w w5 from B1.trans ((B2.mono (by omega)).trans ((B3.mono (by omega)).trans ((B4.mono (by omega)).trans (B5.mono (by omega))))))
  have HS35 := Lib.hid (show CellsAt w5 (w.heap.size + 2) [.int .i64 0, .int .i64 1, .int .i64 2, .int .i64 0, .int .i64 1, .int .i64 2] from (K3.up B4 (by omega)).up B5 (by omega))
  have HS45 := Lib.hid (show CellsAt w5 (w.heap.size + 3) [.int .i64 0, .int .i64 1, .int .i64 1] from K4.up B5 (by omega))
  have HR5 := Lib.hid (show CellsAt w5 w.heap.size [.slice none 0 0, .int .i64 0, .int .i64 0, .slice none 0 0, .slice none 0 0] from (((K1.up B2 (by omega)).up B3 (by omega)).up B4 (by omega)).up B5 (by omega))
  clear V1 V2 V3 V4 V5 K1 K2 K3 K4 K5 B1 B2 B3 B4 B5 Z1 Z2 Z3 Z4 hT hik HP
  go_loopw [4] (fun i wr => ∃ k : Nat, k ≤ 2 + d ∧ i = .int .i64 k ∧ Hid (∃ v, Own KI wr (w.heap.size + 5) v (driN n k) ∧ CellsAt wr (w.heap.size + 4) [v, .int .i64 (latT q), .int .i64 0, .slice (some ⟨w.heap.size + 2, 0, none⟩) 6 6, .slice (some ⟨w.heap.size + 3, 0, none⟩) 3 3]) ∧ Hid (Below (w.heap.size + 4) w5 wr)) (fun i _ => 2 + d - (RowKit.intOf i).toNat)
  case atStart => exact ⟨0, Nat.zero_le _, rfl, Lib.hid ⟨_, Own.nil _ _ _, HF5.out⟩, Lib.hid (Below.refl _ _)⟩
  case round =>
    obtain ⟨k, hk, rfl, HX, HB⟩ := hrel
    obtain ⟨v, HO, HC⟩ := HX.out
    clear HX
    have HO := Lib.hid HO
    have HC := Lib.hid HC
    have hz : w.heap.size + 5 ≤ wr.heap.size := by have := HB.out.size; omega
    by_cases hlt : k < 2 + d
    · have hki : (k : Int) < 2 + (d : Int) := by omega
      have HLT := Lib.hid hlt
      have e0 := pick8_lo (c := n.tdiv 12 + (k : Nat)) (n := 4) (by decide)
      have e1 := pick8_hi (c := n.tdiv 12 + (k : Nat)) (n := 4) (by decide)
      obtain ⟨q2, hq2⟩ := Int.eq_ofNat_of_zero_le e0
      have hq24 : q2 < 4 := by omega
      have HPK := Lib.hid (HP4.out k (by omega))
      have hwk := HWR.out k (by omega)
      rw [hq2] at HPK
      have HST := Lib.hid (show driN n (k + 1) = driN n k ++ [driT q2] by rw [driN_step, hq2])
      have HLN := Lib.hid (show (driN n k).length + 1 ≤ 100000000 by rw [driN_len]; omega)
      clear hq2 e0 e1 hlt
      go_upto_region 5 with ((go_at_call 38; refine (HP3.out _).mono ?_; rintro e z ⟨rfl, rfl⟩))
      refine wp_region_noPanic ?_
      refine wp_region_four (C := Grew wr) [] [0, 1, 3, 4, 5, 6, 7] [2, 8, 9, 10] [11, 12, 13] (by kernel_rfl) (by kernel_rfl) (fun _ _ _ _ _ h => h) (grew0 _) ?_
      simp only [pickOps, List.filterMap_cons, List.filterMap_nil, List.getElem?_toArray, List.getElem?_cons_succ, List.getElem?_cons_zero]
      refine wpPure_nil ?_
      refine wpHead_ex ?_
      apply Exists.intro
      refine ⟨⟨by rfl, fun wx hw => ?_⟩, ?_⟩
      · (have B := hw.below; have c0 := (show wx.cell? ⟨w.heap.size + 4, 0, none⟩ = some v from (HC.out.below B 0 (by simp)).1); go_simp; try (first | (with_reducible rfl) | (with_reducible exact ⟨rfl, rfl⟩)))
      try simp only [Act.put, List.setIfInBounds_toArray, List.set_cons_zero, List.set_cons_succ]
      refine wpHead_ex ?_
      apply Exists.intro
      refine ⟨⟨by rfl, fun wx hw => ?_⟩, ?_⟩
      · (have B := hw.below; have c0 := (show wx.cell? ⟨w.heap.size + 4, 0, none⟩ = some v from (HC.out.below B 0 (by simp)).1); go_simp; try (first | (with_reducible rfl) | (with_reducible exact ⟨rfl, rfl⟩)))
      try simp only [Act.put, List.setIfInBounds_toArray, List.set_cons_zero, List.set_cons_succ]
      refine wpHead_ex ?_
      apply Exists.intro
      refine ⟨⟨by rfl, fun wx hw => ?_⟩, ?_⟩
      · (have B := hw.below; have c0 := (show wx.cell? ⟨w.heap.size + 4, 0, none⟩ = some v from (HC.out.below B 0 (by simp)).1); go_simp; try (first | (with_reducible rfl) | (with_reducible exact ⟨rfl, rfl⟩)))
      try simp only [Act.put, List.setIfInBounds_toArray, List.set_cons_zero, List.set_cons_succ]
      refine wpHead_ex ?_
      apply Exists.intro
      refine ⟨⟨by rfl, fun wx hw => ?_⟩, ?_⟩
      · (have B := hw.below; have c0 := (show wx.cell? ⟨w.heap.size + 4, 0, none⟩ = some v from (HC.out.below B 0 (by simp)).1); go_simp; try (first | (with_reducible rfl) | (with_reducible exact ⟨rfl, rfl⟩)))
      try simp only [Act.put, List.setIfInBounds_toArray, List.set_cons_zero, List.set_cons_succ]
      refine wpHead_ex ?_
      apply Exists.intro
      refine ⟨⟨by rfl, fun wx hw => ?_⟩, ?_⟩
      · (have B := hw.below; have c0 := (show wx.cell? ⟨w.heap.size + 4, 0, none⟩ = some v from (HC.out.below B 0 (by simp)).1); go_simp; try (first | (with_reducible rfl) | (with_reducible exact ⟨rfl, rfl⟩)))
      try simp only [Act.put, List.setIfInBounds_toArray, List.set_cons_zero, List.set_cons_succ]
      refine wpHead_ex ?_
      apply Exists.intro
      refine ⟨⟨by rfl, fun wx hw => ?_⟩, ?_⟩
      · (have B := hw.below; have c0 := (show wx.cell? ⟨w.heap.size + 4, 0, none⟩ = some v from (HC.out.below B 0 (by simp)).1); go_simp; try (first | (with_reducible rfl) | (with_reducible exact ⟨rfl, rfl⟩)))
      try simp only [Act.put, List.setIfInBounds_toArray, List.set_cons_zero, List.set_cons_succ]
      refine wpHead_callx ?_
      apply Exists.intro
      apply Exists.intro
      apply Exists.intro
      refine ⟨⟨by rfl, fun wx hw => ?_, fun wx hw => ?_⟩, ?_⟩
      · (go_simp; try (first | (with_reducible rfl) | (with_reducible exact ⟨rfl, rfl⟩)))
      · (exact (HPK.out wx).mono (fun e w2 h => ⟨h.1, h.2.symm⟩))
      try simp only [Act.put, List.setIfInBounds_toArray, List.set_cons_zero, List.set_cons_succ]
      refine wpHead_nil ?_
      intro wx hwx
      have Bwx := Lib.hid hwx.below
      obtain ⟨w6, V6, Z6, K6, B6⟩ := lay8 wx [.int .i64 0, .int .i64 1, .int .i64 200, .int .i64 1000] 3
      obtain ⟨w7, V7, Z7, K7, B7⟩ := lay8 w6 [.int .i64 (driT q2)] 3
      have g6 : Grew wr w6 := by rw [← V6]; exact hwx.alloc _
      have g7 : Grew wr w7 := by rw [← V7]; exact g6.alloc _
      have hT2 := (lit4 K6 q2 hq24).trans (congrArg some (driT_lit q2 hq24))
      have hik2 := fun W => at_lit4 wx.heap.size 4 q2 hq24 W
      refine wpMid_step (by rfl) (fun K hK => ?_)
      go_simp
      refine hK _ _ (g6) ?_
      clear hK K
      try simp only [Act.put, List.setIfInBounds_toArray, List.set_cons_zero, List.set_cons_succ]
      refine wpMid_step (by rfl) (fun K hK => ?_)
      go_simp
      refine hK _ _ (g6) ?_
      clear hK K
      try simp only [Act.put, List.setIfInBounds_toArray, List.set_cons_zero, List.set_cons_succ]
      refine wpMid_step (by rfl) (fun K hK => ?_)
      go_simp
      refine hK _ _ (g6) ?_
      clear hK K
      try simp only [Act.put, List.setIfInBounds_toArray, List.set_cons_zero, List.set_cons_succ]
      refine wpMid_step (by rfl) (fun K hK => ?_)
      go_simp
      refine hK _ _ (g7) ?_
      clear hK K
      try simp only [Act.put, List.setIfInBounds_toArray, List.set_cons_zero, List.set_cons_succ]
      refine wpMid_nil ?_
      have H7 := Lib.hid g7.below
      have HK7 := Lib.hid (show CellsAt w7 (wx.heap.size + 1) (KI.cs (driT q2)) by rw [← Z6]; exact K7)
      clear V6 V7 K6 K7 B6 B7 Z6 hT2 hik2 g6 g7 hwx Bwx
      refine walk_push8 KI (w0 := w7) rfl _ _ rfl (w.heap.size + 5) v (driN n k) (driT q2) rfl (HO.out.below H7.out (Nat.le_refl _)) (Below.refl _ _) (by have := H7.out.size; omega) (wx.heap.size + 1) 1 rfl HK7.out HLN.out ?_
      intro v8 w8 ho8 hb8 hg8 _
      obtain ⟨ad8, cp8, e8, hcp8⟩ := ho8.form
      generalize (driN n k ++ [driT q2]).length = L8 at e8 hcp8
      subst e8
      have HO8 := Lib.hid ho8
      have HB8 := Lib.hid (show Below (w.heap.size + 4) w5 w8 from HB.out.trans ((H7.out.mono (by omega)).trans (hb8.mono (by omega))))
      have HC8 := Lib.hid ((HC.out.below H7.out).up hb8 (by omega))
      have hz8 : w.heap.size + 5 ≤ w8.heap.size := by have := hb8.size; have := H7.out.size; omega
      have c8 := (HC8.out 0 (by simp))
      obtain ⟨c80, c81⟩ := c8
      have hne : (Value.slice ad8 L8 cp8).ownBlock ≠ some (w.heap.size + 4) := fun e => by have := (HO8.out.ge _ e).1; omega
      clear ho8 hb8 hg8
      go_wp2_with fail
      refine NoPanic.normal ?_
      go_wp2_with fail
      go_roundw
      case rel => exact ⟨k + 1, HLT.out, by go_num, Lib.hid ⟨_, by rw [HST.out]; exact HO8.out.far hne, HC8.out.put 0 _⟩, Lib.hid (HB8.out.setCell (Nat.le_refl _) _)⟩
      case measure => have h9 := HLT.out; simp [RowKit.intOf]; omega
    · have hkk : k = 2 + d := by omega
      have HKK := Lib.hid hkk
      have hki : ¬ (k : Int) < 2 + (d : Int) := by omega
      have hki2 : decide ((k : Int) < 2 + (d : Int)) = false := decide_eq_false hki
      obtain ⟨ad, cp, rfl, hcp, hrn⟩ := HO.out.rn
      have HRN := Lib.hid hrn
      have HCP := Lib.hid hcp
      clear hcp hrn HO
      have hdl := driN_len n k
      rw [hdl] at HC
      have HDL := Lib.hid hdl
      have hmn : min (3 : Int) (k : Int) = b3 := by rw [← HB3.out]; split <;> omega
      have HPX := Lib.hid (HPL.out b3 (by omega) (by omega))
      clear hkk hlt
      have hc := HC.out
      have x0 := hc 0 (by simp); have x1 := hc 1 (by simp); have x2 := hc 2 (by simp); have x3 := hc 3 (by simp); have x4 := hc 4 (by simp)
      have hr := HR5.out.up (show Below (w.heap.size + 1) w5 wr from HB.out.mono (by omega)) (by omega)
      have r0 := hr 0 (by simp); have r1 := hr 1 (by simp); have r2 := hr 2 (by simp); have r3 := hr 3 (by simp); have r4 := hr 4 (by simp)
      obtain ⟨x01, x02⟩ := x0; obtain ⟨x11, x12⟩ := x1; obtain ⟨x21, x22⟩ := x2; obtain ⟨x31, x32⟩ := x3; obtain ⟨x41, x42⟩ := x4
      obtain ⟨r01, r02⟩ := r0; obtain ⟨r11, r12⟩ := r1; obtain ⟨r21, r22⟩ := r2; obtain ⟨r31, r32⟩ := r3; obtain ⟨r41, r42⟩ := r4
      have HDN := Lib.hid (fun lia : Int => fl_done8 (k := k) (cp := cp) (lat := latT q) (lia := lia) HRN.out (HS35.out.up HB.out (by omega)) (HS45.out.up HB.out (by omega)) hr (HB5.out.trans (HB.out.mono (by omega))) hz)
      clear hc hr hdl
      go_upto_region 6 with (first | ((go_at_call 38; refine (HP3.out _).mono ?_; rintro e z ⟨rfl, rfl⟩)))
      go_wp2_with fail
      case inl =>
                  obtain rfl : b3 = (k : Int) := by omega
                  refine (HPX.out _).mono ?_
                  rintro e z ⟨rfl, rfl⟩
                  go_wp2_with fail
                  obtain ⟨WF, hWF, k1, k2, k3, k4, k5⟩ := HDN.out (pick8 (n.tdiv 48) (k : Int))
                  rw [← hWF]
                  have K2 := Lib.hid k2; have K3 := Lib.hid k3; have K4 := Lib.hid k4; have K5 := Lib.hid k5
                  obtain ⟨g0, _⟩ := k1 0 (by simp); obtain ⟨g1, _⟩ := k1 1 (by simp); obtain ⟨g2, _⟩ := k1 2 (by simp); obtain ⟨g3, _⟩ := k1 3 (by simp); obtain ⟨g4, _⟩ := k1 4 (by simp)
                  clear k1 k2 k3 k4 k5 hWF r01 r02 r11 r12 r21 r22 r31 r32 r41 r42
                  simp only [List.getElem_cons_zero, List.getElem_cons_succ] at g0 g1 g2 g3 g4
                  exact bodyPost_ret (v := .agg #[.slice ad k cp, .int .i64 (latT q), .int .i64 (pick8 (n.tdiv 48) (k : Int)), .slice (some ⟨w.heap.size + 2, 0, none⟩) 6 6, .slice (some ⟨w.heap.size + 3, 0, none⟩) 3 3]) (by simp [results, Tryd.results34, go_sem, g0, g1, g2, g3, g4]) rfl
                    ⟨ad, cp, _, _, _, _, by rw [← HKK.out, HDL.out]; rfl, by rw [← HKK.out]; exact K2.out, K3.out, K4.out, K5.out⟩
      case inr =>
                  obtain rfl : b3 = 3 := by omega
                  refine (HPX.out _).mono ?_
                  rintro e z ⟨rfl, rfl⟩
                  go_wp2_with fail
                  obtain ⟨WF, hWF, k1, k2, k3, k4, k5⟩ := HDN.out (pick8 (n.tdiv 48) 3)
                  rw [← hWF]
                  have K2 := Lib.hid k2; have K3 := Lib.hid k3; have K4 := Lib.hid k4; have K5 := Lib.hid k5
                  obtain ⟨g0, _⟩ := k1 0 (by simp); obtain ⟨g1, _⟩ := k1 1 (by simp); obtain ⟨g2, _⟩ := k1 2 (by simp); obtain ⟨g3, _⟩ := k1 3 (by simp); obtain ⟨g4, _⟩ := k1 4 (by simp)
                  clear k1 k2 k3 k4 k5 hWF r01 r02 r11 r12 r21 r22 r31 r32 r41 r42
                  simp only [List.getElem_cons_zero, List.getElem_cons_succ] at g0 g1 g2 g3 g4
                  exact bodyPost_ret (v := .agg #[.slice ad k cp, .int .i64 (latT q), .int .i64 (pick8 (n.tdiv 48) 3), .slice (some ⟨w.heap.size + 2, 0, none⟩) 6 6, .slice (some ⟨w.heap.size + 3, 0, none⟩) 3 3]) (by simp [results, Tryd.results34, go_sem, g0, g1, g2, g3, g4]) rfl
                    ⟨ad, cp, _, _, _, _, by rw [← HKK.out, HDL.out]; rfl, by rw [← HKK.out]; exact K2.out, K3.out, K4.out, K5.out⟩
end Go.Proofs.YtamefmojocegkaaDoor

namespace Go.Proofs.YtamefmojocegkaaDoor
open Go Go.Proofs Go.RowKit Go.Lib
structure Cv where
 dr : Int
 ad : Option Addr
 n : Nat
 c : Nat
def Cv.cells (x : Cv) : List Value := [.int .i64 x.dr, .slice x.ad x.n x.c]
def Cv.val (x : Cv) : Value := .agg #[.int .i64 x.dr, .slice x.ad x.n x.c]
def KK : RowK Cv where
 n := 2
 bytes := 32
 et := 50
 st := 51
 zero := .agg #[.int .i64 0, .slice none 0 0]
 cs := Cv.cells
 len := fun _ => rfl
 one := fun x u hu => by
  simp [Cv.cells] at hu
  rcases hu with rfl | rfl <;> rfl
 pos := by decide
 bb := by decide
 und := by kernel_rfl
 elem := by kernel_rfl
 info := by kernel_rfl
 zs := rfl
def anA (n : Int) (i : Nat) : An := ⟨500 + pick8 (n.tdiv (1 + (i : Nat))) 500, pick8 (n.tdiv (3 + (i : Nat))) 3000000⟩
def anZ (n : Int) (i : Nat) : An := ⟨520 + pick8 (n.tdiv 7) 500, 10000000 + pick8 (n.tdiv (2 + (i : Nat))) 20000000⟩
def clkN (f : Fl) (n : Int) (i : Nat) : Cl := ⟨f.dr.getD i 0, if pick8 (n.tdiv (5 + (i : Nat))) 2 = 1 then [anA n i, anZ n i] else [anA n i]⟩
def CkV (W : World) (base : Nat) (row : Option Nat) (v : Cv) (c : Cl) : Prop := v.dr = c.dr ∧ v.n = c.an.length ∧ ∃ b, v.ad = some ⟨b, 0, none⟩ ∧ row ≠ some b ∧ base ≤ b ∧ b < W.heap.size ∧ CellsAt W b (KA.vs c.an) ∧ c.an ≠ [] ∧ v.n ≤ v.c
theorem KA.vs_cons (a : An) (l : List An) : KA.vs (a :: l) = .int .i64 a.a :: (.int .i64 a.t :: KA.vs l) := rfl
theorem CellsAt.rnA {W : World} {base g : Nat} {l : List An} (h : CellsAt W g (KA.vs l)) (hb : base ≤ g) (hg : g < W.heap.size) : RN KA W base (some ⟨g, 0, none⟩) l := by
 refine .inr ⟨g, 0, rfl, hb, hg, fun i hi j hj => ?_⟩
 have hl := KA.vs_length l
 have hij : KA.n * i + j < (KA.vs l).length := by
  rw [hl]
  have : KA.n * (i + 1) ≤ KA.n * l.length := Nat.mul_le_mul_left _ hi
  rw [Nat.mul_add, Nat.mul_one, Nat.mul_comm KA.n l.length] at this
  omega
 rw [Nat.zero_add, (h _ hij).1, ← KA.vs_get l i j hi hj, List.getElem?_eq_getElem hij]
theorem CkV.ck {W : World} {base : Nat} {row : Option Nat} {v : Cv} {c : Cl} (h : CkV W base row v c) : CkAt W v.val c := by
 obtain ⟨h1, h2, b, h3, _, h5, h6, h7, _⟩ := h
 refine ⟨v.ad, v.c, ?_, ?_⟩
 · unfold Cv.val; rw [h1, h2]
 · rw [h3]; exact (h7.rnA h5 h6).rl
theorem CkV.up {W W' : World} {base n : Nat} {row : Option Nat} {v : Cv} {c : Cl} (h : CkV W base row v c) (hb : Below n W W') (hn : W.heap.size ≤ n) : CkV W' base row v c := by
 obtain ⟨h1, h2, b, h3, h4, h5, h6, h7, h8⟩ := h
 exact ⟨h1, h2, b, h3, h4, h5, Nat.lt_of_lt_of_le h6 hb.size, h7.up hb (by omega), h8⟩
theorem CkV.grown {W W' : World} {base : Nat} {row row' : Option Nat} {v : Cv} {c : Cl} (h : CkV W base row v c) (hg : W.grownBy W' row) (hr : row' = row ∨ row' = some W.heap.size) : CkV W' base row' v c := by
 obtain ⟨h1, h2, b, h3, h4, h5, h6, h7, h8⟩ := h
 refine ⟨h1, h2, b, h3, ?_, h5, Nat.lt_of_lt_of_le h6 hg.size, ?_, h8⟩
 · rcases hr with rfl | rfl
   · exact h4
   · intro e; injection e with e; omega
 · cases hc : c.an with
   | nil => exact absurd hc h8.1
   | cons a l =>
    rw [hc, KA.vs_cons] at h7
    exact h7.grown hg (fun e => h4 e.symm)
theorem RowK.new {T : Type} (K : RowK T) (W : World) (base : Nat) (l : List T) (hb : base ≤ W.heap.size) (hl : l.length ≤ maxLen) (vs : List Value) (hvs : vs = K.vs l) (t : TypeId) (ht : t = K.et) (n : Nat) (hn : n = l.length) :
 Own K (W.alloc (.cells vs.toArray t)) base (.slice (some ⟨W.heap.size, 0, none⟩) n n) l := by
 subst hvs ht hn
 refine ⟨K.vs_length l, .inr ⟨W.heap.size, l.length, (K.vs l).toArray, rfl, hb, heap_alloc_new W _, Nat.le_refl _, hl, by simp [K.vs_length], by rw [List.take_of_length_le (by simp [K.vs_length])]⟩⟩
theorem tdiv1 {n : Int} (h0 : -9223372036854775808 ≤ n) (h1 : n ≤ 9223372036854775807) (k : Int) (hk : 1 ≤ k) : -9223372036854775808 ≤ n.tdiv k ∧ n.tdiv k ≤ 9223372036854775807 := by
 rcases Int.lt_or_le 1 k with h | h
 · have := tdiv8 h0 h1 k (by omega); omega
 · obtain rfl : k = 1 := by omega
   rw [Int.tdiv_one]; exact ⟨h0, h1⟩
def CksPost (w : World) (f : Fl) (n : Int) (e : Ending) (w' : World) : Prop := ∃ ad c row, ∃ l : List Cv, e = .returned (.slice ad l.length c) ∧ l.length ≤ c ∧ RN KK w' w.heap.size ad l ∧ l.length = f.dr.length ∧ (∀ i (hi : i < l.length), CkV w' w.heap.size row l[i] (clkN f n i)) ∧ Below w.heap.size w w'
theorem Own.cells {T : Type} {K : RowK T} {W : World} {base g n c : Nat} {l : List T} (h : Own K W base (.slice (some ⟨g, 0, none⟩) n c) l) : CellsAt W g (K.vs l) := by
 obtain ⟨ad, c2, e, _⟩ := h.form
 injection e with e1 e2 e3
 subst e2 e3
 exact fun i hi => ⟨(World.ownsRow.cellAt h _ (by rw [K.vs_length] at hi; exact hi)).trans (List.getElem?_eq_getElem hi), World.ownsRow.frozenAt h _⟩
theorem cks_step {f : Fl} {n : Int} {B : Nat} {wr w7 w8 : World} {u v8 : Value} {l : List Cv} {D : Int} {g7 NN cp7 : Nat} {LL : List An} {o : Obj} (hck : ∀ j (hj : j < l.length), CkV wr B u.ownBlock l[j] (clkN f n j))
 (hu : ∀ j, u.ownBlock = some j → j < wr.heap.size) (hb : Below wr.heap.size wr w7) (ko : Own KA w7 wr.heap.size (.slice (some ⟨g7, 0, none⟩) NN cp7) LL) (hNN : NN = LL.length) (hLL : LL ≠ []) (hB : B ≤ wr.heap.size) (hcl : clkN f n l.length = ⟨D, LL⟩)
 (hg : (w7.alloc o).grownBy w8 u.ownBlock) (hk : v8.ownBlock = u.ownBlock ∨ v8.ownBlock = some (w7.alloc o).heap.size) :
 ∀ j (hj : j < (l ++ [(⟨D, some ⟨g7, 0, none⟩, NN, cp7⟩ : Cv)]).length), CkV w8 B v8.ownBlock (l ++ [(⟨D, some ⟨g7, 0, none⟩, NN, cp7⟩ : Cv)])[j] (clkN f n j) := by
 intro j hj
 have hz : (w7.alloc o).heap.size = w7.heap.size + 1 := by simp
 have hcap : NN ≤ cp7 := by
  obtain ⟨ad, cq, eq, hq⟩ := ko.form
  injection eq with e1 e2 e3
  omega
 obtain ⟨gv, gc, eg, _, hg1, hg2⟩ := ko.block (List.length_pos_iff.2 hLL)
 injection eg with eg
 injection eg with eg
 injection eg with eg
 subst eg
 have ba : Below w7.heap.size w7 (w7.alloc o) := (Below.refl _ _).alloc (Nat.le_refl _) _
 by_cases hjl : j < l.length
 · rw [List.getElem_append_left hjl]
   exact (((hck j hjl).up hb (Nat.le_refl _)).up ba (Nat.le_refl _)).grown hg hk
 · have e : j = l.length := by rw [List.length_append] at hj; simp at hj; omega
   subst e
   have e2 : (l ++ [(⟨D, some ⟨g7, 0, none⟩, NN, cp7⟩ : Cv)])[l.length]'hj = ⟨D, some ⟨g7, 0, none⟩, NN, cp7⟩ := by simp
   rw [e2, hcl]
   have hne : u.ownBlock ≠ some g7 := fun e => by have := hu _ e; omega
   refine ⟨rfl, hNN, g7, rfl, ?_, by omega, by have := hg.size; omega, ?_, hLL, hcap⟩
   · rcases hk with h | h
     · rw [h]; exact hne
     · rw [h, hz]; intro e; injection e with e; omega
   · have hc := ko.cells.up ba hg2
     cases LL with
     | nil => exact absurd rfl hLL
     | cons a L => exact CellsAt.grown (v := .int .i64 a.a) (vs := .int .i64 a.t :: KA.vs L) hc hg (fun e => hne e.symm)
theorem clocksR_any (v : Value) (f : Fl) (n : Int) (hl : f.dr.length ≤ 6) (h0 : -9223372036854775808 ≤ n) (h1 : n ≤ 9223372036854775807) (w : World) (hf : FlAt w v f) :
 Calls Tryd.prog 25 #[v, .int .i64 n] w (CksPost w f n) := by
 have HFA := Lib.hid (fun W (b : Below w.heap.size w W) => hf.below b)
 obtain ⟨x1, c1, x2, c2, x3, c3, rfl, hI, _, _⟩ := hf
 have HI := Lib.hid hI
 have HP := Lib.hid (fun (k : Int) (hk : 1 ≤ k) (m : Int) (hm : 2 ≤ m) (hm2 : m ≤ 100000000) W => (pickR8_any (n.tdiv k) m (tdiv1 h0 h1 k hk).1 (tdiv1 h0 h1 k hk).2 (by omega) (by omega) W).mono fun e w2 h => And.intro h.1 h.2.symm)
 have HW := Lib.hid (fun (k : Int) (hk : 1 ≤ k) => wrapq8 (tdiv1 h0 h1 k hk))
 obtain ⟨w1, V1, Z1, K1, B1⟩ := lay8 w [.slice x1 f.dr.length c1, .int .i64 f.lat, .int .i64 f.lia, .slice x2 f.sv.length c2, .slice x3 f.tm.length c3] 24
 clear hI
 go_enter Tryd.func25, Tryd.ntmps25
 go_wp2_with fail
 have HK1 := Lib.hid K1
 have HB1 := Lib.hid B1
 clear K1 B1 V1
 go_loopw [5, 6] (fun u i wr => ∃ k : Nat, k ≤ f.dr.length ∧ i = .int .i64 k ∧ Hid (∃ l : List Cv, Own KK wr (w.heap.size + 1) u l ∧ l.length = k ∧ ∀ j (hj : j < l.length), CkV wr (w.heap.size + 1) u.ownBlock l[j] (clkN f n j)) ∧ Hid (Below (w.heap.size + 1) w1 wr)) (fun _ i _ => f.dr.length - (RowKit.intOf i).toNat)
 case atStart => exact ⟨0, Nat.zero_le _, rfl, Lib.hid ⟨[], Own.nil _ _ _, rfl, fun j hj => absurd hj (Nat.not_lt_zero _)⟩, Lib.hid (Below.refl _ _)⟩
 case round =>
  obtain ⟨k, hk, rfl, HX, HB⟩ := hrel
  have hz : w.heap.size + 1 ≤ wr.heap.size := by have := HB.out.size; omega
  have HKR := Lib.hid (HK1.out.up HB.out (by omega))
  have r0 := (HKR.out 0 (by simp)).1
  simp only [List.getElem_cons_zero] at r0
  by_cases hlt : k < f.dr.length
  · have hki : (k : Int) < (f.dr.length : Int) := by omega
    have HLT := Lib.hid hlt
    obtain ⟨fb, fo, rfl, hfb, hfc⟩ := HI.out.int k hlt
    have hik := fun W => at_int8 fb fo f.dr.length c1 k hlt W
    have hd : f.dr.getD k 0 = f.dr[k]'hlt := by rw [List.getD_eq_getElem?_getD, List.getElem?_eq_getElem hlt]; rfl
    rw [← hd] at hfc
    have HFC := Lib.hid (fun W (b : Below wr.heap.size wr W) => hfc W (HB1.out.trans ((HB.out.mono (by omega)).trans (b.mono (by omega)))))
    have HKR2 := Lib.hid (fun W (b : Below wr.heap.size wr W) => show W.cell? ⟨w.heap.size, 0, none⟩ = some (.slice (some ⟨fb, fo, none⟩) f.dr.length c1) from (HKR.out.below b 0 (by simp)).1)
    have q1 := HW.out (1 + (k : Int)) (by omega)
    have q3 := HW.out (3 + (k : Int)) (by omega)
    have q5 := HW.out (5 + (k : Int)) (by omega)
    have q2 := HW.out (2 + (k : Int)) (by omega)
    have q7 := HW.out 7 (by omega)
    have P1 := Lib.hid (HP.out (1 + (k : Int)) (by omega) 500 (by decide) (by decide))
    have P3 := Lib.hid (HP.out (3 + (k : Int)) (by omega) 3000000 (by decide) (by decide))
    have P5 := Lib.hid (HP.out (5 + (k : Int)) (by omega) 2 (by decide) (by decide))
    have P7 := Lib.hid (HP.out 7 (by decide) 500 (by decide) (by decide))
    have P2 := Lib.hid (HP.out (2 + (k : Int)) (by omega) 20000000 (by decide) (by decide))
    have b1 := And.intro (pick8_lo (c := n.tdiv (1 + (k : Int))) (n := 500) (by decide)) (pick8_hi (c := n.tdiv (1 + (k : Int))) (n := 500) (by decide))
    have b7 := And.intro (pick8_lo (c := n.tdiv 7) (n := 500) (by decide)) (pick8_hi (c := n.tdiv 7) (n := 500) (by decide))
    have b2 := And.intro (pick8_lo (c := n.tdiv (2 + (k : Int))) (n := 20000000) (by decide)) (pick8_hi (c := n.tdiv (2 + (k : Int))) (n := 20000000) (by decide))
    obtain ⟨b10, b11⟩ := b1; obtain ⟨b70, b71⟩ := b7; obtain ⟨b20, b21⟩ := b2
    have HCL := Lib.hid (show clkN f n k = ⟨f.dr.getD k 0, if pick8 (n.tdiv (5 + (k : Int))) 2 = 1 then [(⟨500 + pick8 (n.tdiv (1 + (k : Int))) 500, pick8 (n.tdiv (3 + (k : Int))) 3000000⟩ : An), (⟨520 + pick8 (n.tdiv 7) 500, 10000000 + pick8 (n.tdiv (2 + (k : Int))) 20000000⟩ : An)] else [(⟨500 + pick8 (n.tdiv (1 + (k : Int))) 500, pick8 (n.tdiv (3 + (k : Int))) 3000000⟩ : An)]⟩ from rfl)
    generalize f.dr.getD k 0 = D at *
    generalize pick8 (n.tdiv (1 + (k : Int))) 500 = A1 at *
    generalize pick8 (n.tdiv (3 + (k : Int))) 3000000 = A3 at *
    generalize pick8 (n.tdiv (5 + (k : Int))) 2 = A5 at *
    generalize pick8 (n.tdiv 7) 500 = A7 at *
    generalize pick8 (n.tdiv (2 + (k : Int))) 20000000 = A2 at *
    have wa1 := wrapq8 (x := 1 + (k : Int)) (by omega); have wa3 := wrapq8 (x := 3 + (k : Int)) (by omega); have wa5 := wrapq8 (x := 5 + (k : Int)) (by omega); have wa2 := wrapq8 (x := 2 + (k : Int)) (by omega)
    have wb1 : ¬ (1 + (k : Int)) = 0 := by omega
    have wb3 : ¬ (3 + (k : Int)) = 0 := by omega
    have wb5 : ¬ (5 + (k : Int)) = 0 := by omega
    have wb2 : ¬ (2 + (k : Int)) = 0 := by omega
    have wc1 := wrapq8 (x := 500 + A1) (by omega); have wc7 := wrapq8 (x := 520 + A7) (by omega); have wc2 := wrapq8 (x := 10000000 + A2) (by omega)
    clear hd hfc hlt hfb
    go_upto_region 5 with fail
    go_cut [7] from 15 to 33 (fun s7 wx => ∃ c0 g, s7 = .pointer (some ⟨c0, 0, none⟩) ∧ Hid (CellsAt wx c0 [.int .i64 D, .slice (some ⟨g, 0, none⟩) 1 1] ∧ Own KA wx wr.heap.size (.slice (some ⟨g, 0, none⟩) 1 1) [(⟨500 + A1, A3⟩ : An)] ∧ wr.heap.size ≤ c0 ∧ c0 < wx.heap.size ∧ c0 ≠ g) ∧ Hid (Below wr.heap.size wr wx))
    case first =>
     refine wp_region_noPanic ?_
     refine wp_region_Kx (C := Grew wr) [20] 20 #[false, false, false, false, false, false, false, false, false, false, false, false, false, false, false, false, false, false, false, false, false] (by kernel_rfl) (by kernel_rfl) (by kernel_rfl) (grew0 _) ?_
     intro wx hwx
     obtain ⟨w6, V6, Z6, K6, B6⟩ := lay8 wx [.int .i64 (500 + A1), .int .i64 A3] 60
     obtain ⟨w7, V7, Z7, K7, B7⟩ := lay8 w6 [.int .i64 0, .slice none 0 0] 50
     obtain ⟨w8, V8, Z8, K8, B8⟩ := lay8 wx [.int .i64 0, .slice none 0 0] 50
     obtain ⟨w9, V9, Z9, K9, B9⟩ := lay8 w8 [.int .i64 (500 + A1), .int .i64 A3] 60
     have g6 : Grew wr w6 := by rw [← V6]; exact hwx.alloc _
     have g7 : Grew wr w7 := by rw [← V7]; exact g6.alloc _
     have g8 : Grew wr w8 := by rw [← V8]; exact hwx.alloc _
     have g9 : Grew wr w9 := by rw [← V9]; exact g8.alloc _
     have O6 := Lib.hid (show Own KA w6 wr.heap.size (.slice (some ⟨wx.heap.size, 0, none⟩) 1 1) [(⟨500 + A1, A3⟩ : An)] by rw [← V6]; exact KA.new wx wr.heap.size [(⟨500 + A1, A3⟩ : An)] hwx.below.size (by unfold maxLen; simp) [.int .i64 (500 + A1), .int .i64 A3] rfl 60 rfl 1 rfl)
     have O9 := Lib.hid (show Own KA w9 wr.heap.size (.slice (some ⟨wx.heap.size + 1, 0, none⟩) 1 1) [(⟨500 + A1, A3⟩ : An)] by rw [← Z8, ← V9]; exact KA.new w8 wr.heap.size [(⟨500 + A1, A3⟩ : An)] g8.below.size (by unfold maxLen; simp) [.int .i64 (500 + A1), .int .i64 A3] rfl 60 rfl 1 rfl)
     have O7 := Lib.hid (O6.out.below B7 (Nat.le_refl _))
     rw [Z6] at K7 Z7 B7
     rw [Z8] at Z9 K9 B9
     have H7 := Lib.hid g7.below; have H9 := Lib.hid g9.below
     have hs := hwx.below.size
     obtain ⟨k0, k1⟩ := K7 0 (by simp)
     obtain ⟨k2, k3⟩ := K7 1 (by simp)
     have K8 := K8.up B9 (by omega)
     obtain ⟨k4, k5⟩ := K8 0 (by simp)
     obtain ⟨k6, k7⟩ := K8 1 (by simp)
     have K7 := Lib.hid K7; have K8 := Lib.hid K8; have K6 := Lib.hid K6; have K9 := Lib.hid K9
     refine wpAnyK_ex (i := 0) rfl (by kernel_rfl) (listed' := #[true, false, false, false, false, false, false, false, false, false, false, false, false, false, false, false, false, false, false, false, false]) rfl (fun _ _ _ _ _ h => h) hwx ?_
     apply Exists.intro
     refine ⟨⟨by rfl, fun wy hw => ?_⟩, ?_⟩
     · (have bw := hw.below; have f0 := HKR2.out _ bw; have f1 := HFC.out _ bw; go_simp; try (first | (with_reducible rfl) | (with_reducible exact ⟨rfl, rfl⟩)))
     try simp only [Act.put]
     refine wpAnyK_ex (i := 1) rfl (by kernel_rfl) (listed' := #[true, true, false, false, false, false, false, false, false, false, false, false, false, false, false, false, false, false, false, false, false]) rfl (fun _ _ _ _ _ h => h) hwx ?_
     apply Exists.intro
     refine ⟨⟨by rfl, fun wy hw => ?_⟩, ?_⟩
     · (have bw := hw.below; have f0 := HKR2.out _ bw; have f1 := HFC.out _ bw; go_simp; try (first | (with_reducible rfl) | (with_reducible exact ⟨rfl, rfl⟩)))
     try simp only [Act.put]
     refine wpAnyK_ex (i := 2) rfl (by kernel_rfl) (listed' := #[true, true, true, false, false, false, false, false, false, false, false, false, false, false, false, false, false, false, false, false, false]) rfl (fun _ _ _ _ _ h => h) hwx ?_
     apply Exists.intro
     refine ⟨⟨by rfl, fun wy hw => ?_⟩, ?_⟩
     · (have bw := hw.below; have f0 := HKR2.out _ bw; have f1 := HFC.out _ bw; go_simp; try (first | (with_reducible rfl) | (with_reducible exact ⟨rfl, rfl⟩)))
     try simp only [Act.put]
     refine wpAnyK_ex (i := 3) rfl (by kernel_rfl) (listed' := #[true, true, true, true, false, false, false, false, false, false, false, false, false, false, false, false, false, false, false, false, false]) rfl (fun _ _ _ _ _ h => h) hwx ?_
     apply Exists.intro
     refine ⟨⟨by rfl, fun wy hw => ?_⟩, ?_⟩
     · (have bw := hw.below; have f0 := HKR2.out _ bw; have f1 := HFC.out _ bw; go_simp; try (first | (with_reducible rfl) | (with_reducible exact ⟨rfl, rfl⟩)))
     try simp only [Act.put]
     refine wpAnyK_ex (i := 4) rfl (by kernel_rfl) (listed' := #[true, true, true, true, true, false, false, false, false, false, false, false, false, false, false, false, false, false, false, false, false]) rfl (fun _ _ _ _ _ h => h) hwx ?_
     apply Exists.intro
     refine ⟨⟨by rfl, fun wy hw => ?_⟩, ?_⟩
     · (have bw := hw.below; have f0 := HKR2.out _ bw; have f1 := HFC.out _ bw; go_simp; try (first | (with_reducible rfl) | (with_reducible exact ⟨rfl, rfl⟩)))
     try simp only [Act.put]
     refine wpAnyK_ex (i := 5) rfl (by kernel_rfl) (listed' := #[true, true, true, true, true, true, false, false, false, false, false, false, false, false, false, false, false, false, false, false, false]) rfl (fun _ _ _ _ _ h => h) hwx ?_
     apply Exists.intro
     refine ⟨⟨by rfl, fun wy hw => ?_⟩, ?_⟩
     · (have bw := hw.below; have f0 := HKR2.out _ bw; have f1 := HFC.out _ bw; go_simp; try (first | (with_reducible rfl) | (with_reducible exact ⟨rfl, rfl⟩)))
     try simp only [Act.put]
     refine wpAnyK_ex (i := 6) rfl (by kernel_rfl) (listed' := #[true, true, true, true, true, true, true, false, false, false, false, false, false, false, false, false, false, false, false, false, false]) rfl (fun _ _ _ _ _ h => h) hwx ?_
     apply Exists.intro
     refine ⟨⟨by rfl, fun wy hw => ?_⟩, ?_⟩
     · (have bw := hw.below; have f0 := HKR2.out _ bw; have f1 := HFC.out _ bw; go_simp; try (first | (with_reducible rfl) | (with_reducible exact ⟨rfl, rfl⟩)))
     try simp only [Act.put]
     refine wpAnyK_ex (i := 7) rfl (by kernel_rfl) (listed' := #[true, true, true, true, true, true, true, true, false, false, false, false, false, false, false, false, false, false, false, false, false]) rfl (fun _ _ _ _ _ h => h) hwx ?_
     apply Exists.intro
     refine ⟨⟨by rfl, fun wy hw => ?_⟩, ?_⟩
     · (have bw := hw.below; have f0 := HKR2.out _ bw; have f1 := HFC.out _ bw; go_simp; try (first | (with_reducible rfl) | (with_reducible exact ⟨rfl, rfl⟩)))
     try simp only [Act.put]
     refine wpAnyK_ex (i := 8) rfl (by kernel_rfl) (listed' := #[true, true, true, true, true, true, true, true, true, false, false, false, false, false, false, false, false, false, false, false, false]) rfl (fun _ _ _ _ _ h => h) hwx ?_
     apply Exists.intro
     refine ⟨⟨by rfl, fun wy hw => ?_⟩, ?_⟩
     · (have bw := hw.below; have f0 := HKR2.out _ bw; have f1 := HFC.out _ bw; go_simp; try (first | (with_reducible rfl) | (with_reducible exact ⟨rfl, rfl⟩)))
     try simp only [Act.put]
     refine wpAnyK_callx (i := 9) rfl (by kernel_rfl) (listed' := #[true, true, true, true, true, true, true, true, true, true, false, false, false, false, false, false, false, false, false, false, false]) rfl (fun _ _ _ _ _ h => h) hwx ?_
     apply Exists.intro
     apply Exists.intro
     apply Exists.intro
     refine ⟨⟨by rfl, fun wy hw => ?_, fun wy hw => ?_⟩, ?_⟩
     · (have bw := hw.below; have f0 := HKR2.out _ bw; have f1 := HFC.out _ bw; go_simp; try (first | (with_reducible rfl) | (with_reducible exact ⟨rfl, rfl⟩)))
     · (exact P1.out _)
     try simp only [Act.put]
     refine wpAnyK_ex (i := 10) rfl (by kernel_rfl) (listed' := #[true, true, true, true, true, true, true, true, true, true, true, false, false, false, false, false, false, false, false, false, false]) rfl (fun _ _ _ _ _ h => h) hwx ?_
     apply Exists.intro
     refine ⟨⟨by rfl, fun wy hw => ?_⟩, ?_⟩
     · (have bw := hw.below; have f0 := HKR2.out _ bw; have f1 := HFC.out _ bw; go_simp; try (first | (with_reducible rfl) | (with_reducible exact ⟨rfl, rfl⟩)))
     try simp only [Act.put]
     refine wpAnyK_ex (i := 11) rfl (by kernel_rfl) (listed' := #[true, true, true, true, true, true, true, true, true, true, true, true, false, false, false, false, false, false, false, false, false]) rfl (fun _ _ _ _ _ h => h) hwx ?_
     apply Exists.intro
     refine ⟨⟨by rfl, fun wy hw => ?_⟩, ?_⟩
     · (have bw := hw.below; have f0 := HKR2.out _ bw; have f1 := HFC.out _ bw; go_simp; try (first | (with_reducible rfl) | (with_reducible exact ⟨rfl, rfl⟩)))
     try simp only [Act.put]
     refine wpAnyK_ex (i := 12) rfl (by kernel_rfl) (listed' := #[true, true, true, true, true, true, true, true, true, true, true, true, true, false, false, false, false, false, false, false, false]) rfl (fun _ _ _ _ _ h => h) hwx ?_
     apply Exists.intro
     refine ⟨⟨by rfl, fun wy hw => ?_⟩, ?_⟩
     · (have bw := hw.below; have f0 := HKR2.out _ bw; have f1 := HFC.out _ bw; go_simp; try (first | (with_reducible rfl) | (with_reducible exact ⟨rfl, rfl⟩)))
     try simp only [Act.put]
     refine wpAnyK_ex (i := 13) rfl (by kernel_rfl) (listed' := #[true, true, true, true, true, true, true, true, true, true, true, true, true, true, false, false, false, false, false, false, false]) rfl (fun _ _ _ _ _ h => h) hwx ?_
     apply Exists.intro
     refine ⟨⟨by rfl, fun wy hw => ?_⟩, ?_⟩
     · (have bw := hw.below; have f0 := HKR2.out _ bw; have f1 := HFC.out _ bw; go_simp; try (first | (with_reducible rfl) | (with_reducible exact ⟨rfl, rfl⟩)))
     try simp only [Act.put]
     refine wpAnyK_ex (i := 14) rfl (by kernel_rfl) (listed' := #[true, true, true, true, true, true, true, true, true, true, true, true, true, true, true, false, false, false, false, false, false]) rfl (fun _ _ _ _ _ h => h) hwx ?_
     apply Exists.intro
     refine ⟨⟨by rfl, fun wy hw => ?_⟩, ?_⟩
     · (have bw := hw.below; have f0 := HKR2.out _ bw; have f1 := HFC.out _ bw; go_simp; try (first | (with_reducible rfl) | (with_reducible exact ⟨rfl, rfl⟩)))
     try simp only [Act.put]
     refine wpAnyK_callx (i := 15) rfl (by kernel_rfl) (listed' := #[true, true, true, true, true, true, true, true, true, true, true, true, true, true, true, true, false, false, false, false, false]) rfl (fun _ _ _ _ _ h => h) hwx ?_
     apply Exists.intro
     apply Exists.intro
     apply Exists.intro
     refine ⟨⟨by rfl, fun wy hw => ?_, fun wy hw => ?_⟩, ?_⟩
     · (have bw := hw.below; have f0 := HKR2.out _ bw; have f1 := HFC.out _ bw; go_simp; try (first | (with_reducible rfl) | (with_reducible exact ⟨rfl, rfl⟩)))
     · (exact P3.out _)
     try simp only [Act.put]
     refine wpAnyK_ex (i := 16) rfl (by kernel_rfl) (listed' := #[true, true, true, true, true, true, true, true, true, true, true, true, true, true, true, true, true, false, false, false, false]) rfl (fun _ _ _ _ _ h => h) hwx ?_
     apply Exists.intro
     refine ⟨⟨by rfl, fun wy hw => ?_⟩, ?_⟩
     · (have bw := hw.below; have f0 := HKR2.out _ bw; have f1 := HFC.out _ bw; go_simp; try (first | (with_reducible rfl) | (with_reducible exact ⟨rfl, rfl⟩)))
     try simp only [Act.put]
     refine wpAnyK_fork2 17 19 (by kernel_rfl) ?_ ?_
     · skip
       refine wpOpK_step rfl (by kernel_rfl) (listed' := #[true, true, true, true, true, true, true, true, true, true, true, true, true, true, true, true, true, true, false, false, false]) rfl (by rfl) (fun K hK => ?_)
       go_simp
       refine hK _ _ (g6) ?_
       clear hK K
       try simp only [Act.put]
       refine wpAnyK_ex (i := 18) rfl (by kernel_rfl) (listed' := #[true, true, true, true, true, true, true, true, true, true, true, true, true, true, true, true, true, true, true, false, false]) rfl (fun _ _ _ _ _ h => h) (g6) ?_
       apply Exists.intro
       refine ⟨⟨by rfl, fun wy hw => ?_⟩, ?_⟩
       · (have bw := hw.below; have f0 := HKR2.out _ bw; have f1 := HFC.out _ bw; go_simp; try (first | (with_reducible rfl) | (with_reducible exact ⟨rfl, rfl⟩)))
       try simp only [Act.put]
       refine wpAnyK_fork1 19 (by kernel_rfl) ?_
       refine wpOpK_step rfl (by kernel_rfl) (listed' := #[true, true, true, true, true, true, true, true, true, true, true, true, true, true, true, true, true, true, true, true, false]) rfl (by rfl) (fun K hK => ?_)
       go_simp
       refine hK _ _ (g7) ?_
       clear hK K
       try simp only [Act.put]
       refine wpAnyK_end (by kernel_rfl) ?_
       try simp only [pickOps, List.filterMap_cons, List.filterMap_nil, List.getElem?_toArray, List.getElem?_cons_succ, List.getElem?_cons_zero]
       clear V6 V7 V8 V9
       go_wp2_with fail
       refine NoPanic.normal ?_
       go_wp2_with fail
       go_meet
       exact ⟨_, _, rfl, Lib.hid ⟨(K7.out.put 0 _).put 1 _, (O7.out.far (by intro e; injection e with e; have e : wx.heap.size = wx.heap.size + 1 := e; omega)).far (by intro e; injection e with e; have e : wx.heap.size = wx.heap.size + 1 := e; omega), by omega, by simp; omega, by omega⟩, Lib.hid ((H7.out.setCell (by show _ ≤ wx.heap.size + 1; omega) _).setCell (by show _ ≤ wx.heap.size + 1; omega) _)⟩
     · skip
       refine wpOpK_step rfl (by kernel_rfl) (listed' := #[true, true, true, true, true, true, true, true, true, true, true, true, true, true, true, true, true, false, false, true, false]) rfl (by rfl) (fun K hK => ?_)
       go_simp
       refine hK _ _ (g8) ?_
       clear hK K
       try simp only [Act.put]
       refine wpAnyK_fork1 17 (by kernel_rfl) ?_
       refine wpOpK_step rfl (by kernel_rfl) (listed' := #[true, true, true, true, true, true, true, true, true, true, true, true, true, true, true, true, true, true, false, true, false]) rfl (by rfl) (fun K hK => ?_)
       go_simp
       refine hK _ _ (g9) ?_
       clear hK K
       try simp only [Act.put]
       refine wpAnyK_ex (i := 18) rfl (by kernel_rfl) (listed' := #[true, true, true, true, true, true, true, true, true, true, true, true, true, true, true, true, true, true, true, true, false]) rfl (fun _ _ _ _ _ h => h) (g9) ?_
       apply Exists.intro
       refine ⟨⟨by rfl, fun wy hw => ?_⟩, ?_⟩
       · (have bw := hw.below; have f0 := HKR2.out _ bw; have f1 := HFC.out _ bw; go_simp; try (first | (with_reducible rfl) | (with_reducible exact ⟨rfl, rfl⟩)))
       try simp only [Act.put]
       refine wpAnyK_end (by kernel_rfl) ?_
       try simp only [pickOps, List.filterMap_cons, List.filterMap_nil, List.getElem?_toArray, List.getElem?_cons_succ, List.getElem?_cons_zero]
       clear V6 V7 V8 V9
       go_wp2_with fail
       refine NoPanic.normal ?_
       go_wp2_with fail
       go_meet
       exact ⟨_, _, rfl, Lib.hid ⟨(K8.out.put 0 _).put 1 _, (O9.out.far (by intro e; injection e with e; have e : wx.heap.size + 1 = wx.heap.size := e; omega)).far (by intro e; injection e with e; have e : wx.heap.size + 1 = wx.heap.size := e; omega), by omega, by simp; omega, by omega⟩, Lib.hid ((H9.out.setCell (by show _ ≤ wx.heap.size; omega) _).setCell (by show _ ≤ wx.heap.size; omega) _)⟩
    case rest =>
     obtain ⟨c0, g, rfl, HS, HB6⟩ := hcut
     generalize wc = w6 at *
     obtain ⟨KC, KO, hc1, hc2, hcg⟩ := HS.out
     have KC := Lib.hid KC; have KO := Lib.hid KO
     clear HS
     have hz6 : wr.heap.size ≤ w6.heap.size := HB6.out.size
     have r6 := (HKR.out.below HB6.out 0 (by simp)).1
     simp only [List.getElem_cons_zero] at r6
     clear wa1 wa3 wb1 wb3 wc1 q1 q3 r0
     go_upto_region 6 with fail
     by_cases h5 : A5 = 1
     · have h51 : (A5 == 1) = true := by rw [h5]; rfl
       have HCL2 := Lib.hid (show clkN f n k = ⟨D, [(⟨500 + A1, A3⟩ : An), (⟨520 + A7, 10000000 + A2⟩ : An)]⟩ by rw [HCL.out, if_pos h5])
       clear h5
       go_upto_region 7 with (go_at_call 38; refine (P5.out _).mono ?_; rintro e z ⟨rfl, rfl⟩)
       go_cut [7] from 40 to 55 (fun s7 wx => s7 = .pointer (some ⟨c0, 0, none⟩) ∧ Hid (∃ g c, CellsAt wx c0 [.int .i64 D, .slice (some ⟨g, 0, none⟩) 2 c] ∧ Own KA wx wr.heap.size (.slice (some ⟨g, 0, none⟩) 2 c) [(⟨500 + A1, A3⟩ : An), (⟨520 + A7, 10000000 + A2⟩ : An)] ∧ c0 ≠ g) ∧ Hid (Below wr.heap.size wr wx))
       case first =>
        have HKC := Lib.hid (fun W (b : Below z.heap.size z W) => show W.cell? ⟨c0, 1, none⟩ = some (.slice (some ⟨g, 0, none⟩) 1 1) from (KC.out.below b 1 (by simp)).1)
        refine wp_region_noPanic ?_
        refine wp_region_Kx (C := Grew z) [14, 15, 16] 14 #[false, false, false, false, false, false, false, false, false, false, false, false, false, false, false, false, false] (by kernel_rfl) (by kernel_rfl) (by kernel_rfl) (grew0 _) ?_
        intro wx hwx
        obtain ⟨w7, V7, Z7, K7, B7⟩ := lay8 wx [.int .i64 (520 + A7), .int .i64 (10000000 + A2)] 60
        have g7 : Grew z w7 := by rw [← V7]; exact hwx.alloc _
        have H7 := Lib.hid g7.below
        have K7 := Lib.hid K7
        have hs := hwx.below.size
        refine wpAnyK_ex (i := 0) rfl (by kernel_rfl) (listed' := #[true, false, false, false, false, false, false, false, false, false, false, false, false, false, false, false, false]) rfl (fun _ _ _ _ _ h => h) hwx ?_
        apply Exists.intro
        refine ⟨⟨by rfl, fun wy hw => ?_⟩, ?_⟩
        · (have bw := hw.below; have f0 := HKC.out _ bw; go_simp; try (first | (with_reducible rfl) | (with_reducible exact ⟨rfl, rfl⟩)))
        try simp only [Act.put]
        refine wpAnyK_ex (i := 1) rfl (by kernel_rfl) (listed' := #[true, true, false, false, false, false, false, false, false, false, false, false, false, false, false, false, false]) rfl (fun _ _ _ _ _ h => h) hwx ?_
        apply Exists.intro
        refine ⟨⟨by rfl, fun wy hw => ?_⟩, ?_⟩
        · (have bw := hw.below; have f0 := HKC.out _ bw; go_simp; try (first | (with_reducible rfl) | (with_reducible exact ⟨rfl, rfl⟩)))
        try simp only [Act.put]
        refine wpAnyK_ex (i := 2) rfl (by kernel_rfl) (listed' := #[true, true, true, false, false, false, false, false, false, false, false, false, false, false, false, false, false]) rfl (fun _ _ _ _ _ h => h) hwx ?_
        apply Exists.intro
        refine ⟨⟨by rfl, fun wy hw => ?_⟩, ?_⟩
        · (have bw := hw.below; have f0 := HKC.out _ bw; go_simp; try (first | (with_reducible rfl) | (with_reducible exact ⟨rfl, rfl⟩)))
        try simp only [Act.put]
        refine wpAnyK_ex (i := 3) rfl (by kernel_rfl) (listed' := #[true, true, true, true, false, false, false, false, false, false, false, false, false, false, false, false, false]) rfl (fun _ _ _ _ _ h => h) hwx ?_
        apply Exists.intro
        refine ⟨⟨by rfl, fun wy hw => ?_⟩, ?_⟩
        · (have bw := hw.below; have f0 := HKC.out _ bw; go_simp; try (first | (with_reducible rfl) | (with_reducible exact ⟨rfl, rfl⟩)))
        try simp only [Act.put]
        refine wpAnyK_callx (i := 4) rfl (by kernel_rfl) (listed' := #[true, true, true, true, true, false, false, false, false, false, false, false, false, false, false, false, false]) rfl (fun _ _ _ _ _ h => h) hwx ?_
        apply Exists.intro
        apply Exists.intro
        apply Exists.intro
        refine ⟨⟨by rfl, fun wy hw => ?_, fun wy hw => ?_⟩, ?_⟩
        · (have bw := hw.below; have f0 := HKC.out _ bw; go_simp; try (first | (with_reducible rfl) | (with_reducible exact ⟨rfl, rfl⟩)))
        · (exact P7.out _)
        try simp only [Act.put]
        refine wpAnyK_ex (i := 5) rfl (by kernel_rfl) (listed' := #[true, true, true, true, true, true, false, false, false, false, false, false, false, false, false, false, false]) rfl (fun _ _ _ _ _ h => h) hwx ?_
        apply Exists.intro
        refine ⟨⟨by rfl, fun wy hw => ?_⟩, ?_⟩
        · (have bw := hw.below; have f0 := HKC.out _ bw; go_simp; try (first | (with_reducible rfl) | (with_reducible exact ⟨rfl, rfl⟩)))
        try simp only [Act.put]
        refine wpAnyK_ex (i := 6) rfl (by kernel_rfl) (listed' := #[true, true, true, true, true, true, true, false, false, false, false, false, false, false, false, false, false]) rfl (fun _ _ _ _ _ h => h) hwx ?_
        apply Exists.intro
        refine ⟨⟨by rfl, fun wy hw => ?_⟩, ?_⟩
        · (have bw := hw.below; have f0 := HKC.out _ bw; go_simp; try (first | (with_reducible rfl) | (with_reducible exact ⟨rfl, rfl⟩)))
        try simp only [Act.put]
        refine wpAnyK_ex (i := 7) rfl (by kernel_rfl) (listed' := #[true, true, true, true, true, true, true, true, false, false, false, false, false, false, false, false, false]) rfl (fun _ _ _ _ _ h => h) hwx ?_
        apply Exists.intro
        refine ⟨⟨by rfl, fun wy hw => ?_⟩, ?_⟩
        · (have bw := hw.below; have f0 := HKC.out _ bw; go_simp; try (first | (with_reducible rfl) | (with_reducible exact ⟨rfl, rfl⟩)))
        try simp only [Act.put]
        refine wpAnyK_ex (i := 8) rfl (by kernel_rfl) (listed' := #[true, true, true, true, true, true, true, true, true, false, false, false, false, false, false, false, false]) rfl (fun _ _ _ _ _ h => h) hwx ?_
        apply Exists.intro
        refine ⟨⟨by rfl, fun wy hw => ?_⟩, ?_⟩
        · (have bw := hw.below; have f0 := HKC.out _ bw; go_simp; try (first | (with_reducible rfl) | (with_reducible exact ⟨rfl, rfl⟩)))
        try simp only [Act.put]
        refine wpAnyK_ex (i := 9) rfl (by kernel_rfl) (listed' := #[true, true, true, true, true, true, true, true, true, true, false, false, false, false, false, false, false]) rfl (fun _ _ _ _ _ h => h) hwx ?_
        apply Exists.intro
        refine ⟨⟨by rfl, fun wy hw => ?_⟩, ?_⟩
        · (have bw := hw.below; have f0 := HKC.out _ bw; go_simp; try (first | (with_reducible rfl) | (with_reducible exact ⟨rfl, rfl⟩)))
        try simp only [Act.put]
        refine wpAnyK_callx (i := 10) rfl (by kernel_rfl) (listed' := #[true, true, true, true, true, true, true, true, true, true, true, false, false, false, false, false, false]) rfl (fun _ _ _ _ _ h => h) hwx ?_
        apply Exists.intro
        apply Exists.intro
        apply Exists.intro
        refine ⟨⟨by rfl, fun wy hw => ?_, fun wy hw => ?_⟩, ?_⟩
        · (have bw := hw.below; have f0 := HKC.out _ bw; go_simp; try (first | (with_reducible rfl) | (with_reducible exact ⟨rfl, rfl⟩)))
        · (exact P2.out _)
        try simp only [Act.put]
        refine wpAnyK_ex (i := 11) rfl (by kernel_rfl) (listed' := #[true, true, true, true, true, true, true, true, true, true, true, true, false, false, false, false, false]) rfl (fun _ _ _ _ _ h => h) hwx ?_
        apply Exists.intro
        refine ⟨⟨by rfl, fun wy hw => ?_⟩, ?_⟩
        · (have bw := hw.below; have f0 := HKC.out _ bw; go_simp; try (first | (with_reducible rfl) | (with_reducible exact ⟨rfl, rfl⟩)))
        try simp only [Act.put]
        refine wpAnyK_ex (i := 12) rfl (by kernel_rfl) (listed' := #[true, true, true, true, true, true, true, true, true, true, true, true, true, false, false, false, false]) rfl (fun _ _ _ _ _ h => h) hwx ?_
        apply Exists.intro
        refine ⟨⟨by rfl, fun wy hw => ?_⟩, ?_⟩
        · (have bw := hw.below; have f0 := HKC.out _ bw; go_simp; try (first | (with_reducible rfl) | (with_reducible exact ⟨rfl, rfl⟩)))
        try simp only [Act.put]
        refine wpAnyK_fork1 13 (by kernel_rfl) ?_
        refine wpOpK_step rfl (by kernel_rfl) (listed' := #[true, true, true, true, true, true, true, true, true, true, true, true, true, true, false, false, false]) rfl (by rfl) (fun K hK => ?_)
        go_simp
        refine hK _ _ (g7) ?_
        clear hK K
        try simp only [Act.put]
        refine wpAnyK_end (by kernel_rfl) ?_
        try simp only [pickOps, List.filterMap_cons, List.filterMap_nil, List.getElem?_toArray, List.getElem?_cons_succ, List.getElem?_cons_zero]
        clear V7
        refine walk_push8 KA (w0 := w7) rfl _ _ rfl wr.heap.size (.slice (some ⟨g, 0, none⟩) 1 1) [(⟨500 + A1, A3⟩ : An)] (⟨520 + A7, 10000000 + A2⟩ : An) rfl (KO.out.below H7.out (Nat.le_refl _)) (Below.refl _ _) (by omega) wx.heap.size 1 rfl K7.out (by simp) ?_
        intro v8 w8 ho8 hb8 hg8 hk8
        obtain ⟨g8, cp8, e8, hob, hgb, hgl⟩ := ho8.block (by simp)
        subst e8
        have HO8 := Lib.hid ho8
        have HC8 := Lib.hid ((KC.out.below H7.out).grown hg8 (by intro e; injection e with e; exact hcg e))
        have hk8 : (some g8 : Option Nat) = some g ∨ (some g8 : Option Nat) = some w7.heap.size := hk8
        have hne : c0 ≠ g8 := by
         rcases hk8 with h | h
         · injection h with h; omega
         · injection h with h; have := H7.out.size; omega
        have HB8 := Lib.hid (show Below wr.heap.size wr w8 from HB6.out.trans ((H7.out.mono (by omega)).trans hb8))
        obtain ⟨c80, c81⟩ := HC8.out 1 (by simp)
        clear ho8 hb8 hg8 hk8 hob
        go_wp2_with fail
        refine NoPanic.normal ?_
        go_wp2_with fail
        go_meet
        exact ⟨rfl, Lib.hid ⟨g8, cp8, HC8.out.put 1 _, HO8.out.far (by intro e; injection e with e; exact hne e.symm), hne⟩, Lib.hid (HB8.out.setCell (by omega) _)⟩
       case rest =>
        obtain ⟨rfl, HX7, HB7⟩ := hcut
        generalize wc = w7 at *
        clear r6
        obtain ⟨g7, cp7, kc7, ko7, _⟩ := HX7.out
        have KC7 := Lib.hid kc7; have KO7 := Lib.hid ko7
        clear kc7 ko7 HX7
        obtain ⟨l, ho, hlen, hck⟩ := HX.out
        obtain ⟨cc0, _⟩ := KC7.out 0 (by simp); obtain ⟨cc1, _⟩ := KC7.out 1 (by simp)
        simp only [List.getElem_cons_zero, List.getElem_cons_succ] at cc0 cc1
        have HO7 := Lib.hid (ho.below HB7.out (Nat.le_refl _))
        have HCK := Lib.hid hck
        have HGE := Lib.hid (fun j e => (ho.ge j e).2)
        have HLEN := Lib.hid hlen
        have HLE := Lib.hid (show l.length + 1 ≤ 100000000 by omega)
        have HZ7 := Lib.hid (show w.heap.size + 1 ≤ w7.heap.size by have := HB7.out.size; omega)
        clear ho hck hlen
        go_wp2_with (first | (at_builtin; refine walk_push8 KK (w0 := w7) rfl _ _ rfl (w.heap.size + 1) _ l (⟨D, some ⟨g7, 0, none⟩, 2, cp7⟩ : Cv) rfl (HO7.out.alloc _) ((Below.refl _ _).alloc HZ7.out _) (by have := HZ7.out; simp; omega) w7.heap.size 1 rfl (cellsAt_new rfl) HLE.out ?_; intro v8 w8 ho8 hb8 hg8 hk8))
        have HO8 := Lib.hid ho8; have HG8 := Lib.hid hg8; have HK8 := Lib.hid hk8; have HB8 := Lib.hid hb8
        clear ho8 hb8 hg8 hk8 cc0 cc1
        go_roundw
        case rel => exact ⟨k + 1, HLT.out, by go_num, Lib.hid ⟨_, HO8.out, by rw [List.length_append, HLEN.out]; rfl, cks_step HCK.out HGE.out HB7.out KO7.out rfl (by simp) hz (by rw [HLEN.out]; exact HCL2.out) HG8.out HK8.out⟩, Lib.hid (HB.out.trans ((HB7.out.mono (by omega)).trans HB8.out))⟩
        case measure => have h9 := HLT.out; simp [RowKit.intOf]; omega
     · have h51 : (A5 == 1) = false := by rw [beq_eq_false_iff_ne]; exact h5
       have HCL2 := Lib.hid (show clkN f n k = ⟨D, [(⟨500 + A1, A3⟩ : An)]⟩ by rw [HCL.out, if_neg h5])
       clear h5
       go_upto_region 8 with (go_at_call 38; refine (P5.out _).mono ?_; rintro e z ⟨rfl, rfl⟩)
       obtain ⟨l, ho, hlen, hck⟩ := HX.out
       obtain ⟨cc0, _⟩ := KC.out 0 (by simp); obtain ⟨cc1, _⟩ := KC.out 1 (by simp)
       simp only [List.getElem_cons_zero, List.getElem_cons_succ] at cc0 cc1
       have HO7 := Lib.hid (ho.below HB6.out (Nat.le_refl _))
       have HCK := Lib.hid hck
       have HGE := Lib.hid (fun j e => (ho.ge j e).2)
       have HLEN := Lib.hid hlen
       have HLE := Lib.hid (show l.length + 1 ≤ 100000000 by omega)
       have HZ7 := Lib.hid (show w.heap.size + 1 ≤ z.heap.size by have := HB6.out.size; omega)
       clear ho hck hlen
       go_wp2_with (first | (at_builtin; refine walk_push8 KK (w0 := z) rfl _ _ rfl (w.heap.size + 1) _ l (⟨D, some ⟨g, 0, none⟩, 1, 1⟩ : Cv) rfl (HO7.out.alloc _) ((Below.refl _ _).alloc HZ7.out _) (by have := HZ7.out; simp; omega) z.heap.size 1 rfl (cellsAt_new rfl) HLE.out ?_; intro v8 w8 ho8 hb8 hg8 hk8))
       have HO8 := Lib.hid ho8; have HG8 := Lib.hid hg8; have HK8 := Lib.hid hk8; have HB8 := Lib.hid hb8
       clear ho8 hb8 hg8 hk8 cc0 cc1
       go_roundw
       case rel => exact ⟨k + 1, HLT.out, by go_num, Lib.hid ⟨_, HO8.out, by rw [List.length_append, HLEN.out]; rfl, cks_step HCK.out HGE.out HB6.out KO.out rfl (by simp) hz (by rw [HLEN.out]; exact HCL2.out) HG8.out HK8.out⟩, Lib.hid (HB.out.trans ((HB6.out.mono (by omega)).trans HB8.out))⟩
       case measure => have h9 := HLT.out; simp [RowKit.intOf]; omega
  · have hkk : k = f.dr.length := by omega
    have HKK := Lib.hid hkk
    have hki : ¬ (k : Int) < (f.dr.length : Int) := by omega
    obtain ⟨l, ho, hlen, hck⟩ := HX.out
    obtain ⟨ad5, c5, e5, hc5, hn5⟩ := ho.rn
    subst e5
    have HR := Lib.hid (show CksPost w f n (.returned (.slice ad5 l.length c5)) wr from ⟨ad5, c5, _, l, rfl, hc5, hn5.base (by omega), by omega, fun i hi => by
     obtain ⟨a1, a2, b, a3, a4, a5, a6⟩ := hck i hi
     exact ⟨a1, a2, b, a3, a4, by omega, a6⟩, HB1.out.trans (HB.out.mono (by omega))⟩)
    clear ho hlen hck hc5 hn5 hkk hlt
    go_wp2_with fail
    go_ret
    exact HR.out
end Go.Proofs.YtamefmojocegkaaDoor

namespace Go.Proofs.YtamefmojocegkaaDoor
open Go Go.Proofs Go.RowKit Go.Lib
theorem read_ex {c : Cl} (h : ckB c = true) {t : Int} (h0 : -17592186044416 ≤ t) (h1 : t ≤ 17592186044416) : ∃ r, IsRead c t r := by
 obtain ⟨l0, l1⟩ := begN_low h
 refine Classical.byContradiction fun hno => ?_
 have hall : ∀ k : Nat, begN c.dr (-134217728 + (k : Int)) c.an ≤ t := by
  intro k
  induction k with
  | zero => simp; omega
  | succ k ih =>
   refine Classical.byContradiction fun hk => hno ⟨-134217728 + (k : Int), ih, ?_⟩
   have e : (-134217728 + (k : Int) + 1) = -134217728 + ((k + 1 : Nat) : Int) := by omega
   rw [e]
   omega
 have := hall 268435456
 rw [show (-134217728 + ((268435456 : Nat) : Int)) = 134217728 by decide] at this
 omega
theorem readV_is {c : Cl} {t : Int} (hb : readB c t = true) : IsRead c t (readV c t) := by
 have hv := hb
 unfold readB at hv
 rw [Bool.and_eq_true] at hv
 obtain ⟨h0, h1⟩ := of_inB hv.2
 obtain ⟨r, hr⟩ := read_ex hv.1 h0 h1
 rw [readV_of hb hr]
 exact hr
theorem readB_yes {c : Cl} {t : Int} (h : ckB c = true) (h0 : -17592186044416 ≤ t) (h1 : t ≤ 17592186044416) : readB c t = true := by
 unfold readB
 rw [h, inB_yes h0 h1]
 rfl
theorem readE_yes {c : Cl} {t : Int} (h : readB c t = true) : readE c t = 0 := by unfold readE; rw [if_pos h]
theorem read_mono {c : Cl} (h : ckB c = true) {a b x y : Int} (hx : IsRead c a x) (hy : IsRead c b y) (hab : a ≤ b) : x ≤ y := by
 obtain ⟨_, ⟨d0, d1⟩, _, hne⟩ := ckB_of h
 refine Classical.byContradiction fun hn => ?_
 have := begN_mono c.dr (y + 1) x c.an d0 d1 hne (by omega)
 have h1 := hx.1; have h2 := hy.2
 omega
theorem fleetN_dr (n : Int) (i : Nat) : 0 ≤ (fleetN n).dr.getD i 0 ∧ (fleetN n).dr.getD i 0 ≤ 1000 := by
 rw [List.getD_eq_getElem?_getD]
 rcases Nat.lt_or_ge i (fleetN n).dr.length with h | h
 · rw [List.getElem?_eq_getElem h]
   have e : (fleetN n).dr[i] ∈ driN n (agN n) := List.getElem_mem h
   unfold driN at e
   obtain ⟨j, _, hj⟩ := List.mem_map.1 e
   show 0 ≤ (fleetN n).dr[i] ∧ (fleetN n).dr[i] ≤ 1000
   rw [← hj]
   exact driT_bd _
 · rw [List.getElem?_eq_none h]
   exact ⟨by decide, by decide⟩
theorem fleetN_len (n : Int) : (fleetN n).dr.length = agN n := by unfold fleetN; exact driN_len _ _
theorem clkN_ok (n : Int) (i : Nat) : ckB (clkN (fleetN n) n i) = true := by
 have a0 := pick8_lo (c := n.tdiv (1 + (i : Nat))) (n := 500) (by decide)
 have a1 := pick8_hi (c := n.tdiv (1 + (i : Nat))) (n := 500) (by decide)
 have b0 := pick8_lo (c := n.tdiv (3 + (i : Nat))) (n := 3000000) (by decide)
 have b1 := pick8_hi (c := n.tdiv (3 + (i : Nat))) (n := 3000000) (by decide)
 have c0 := pick8_lo (c := n.tdiv 7) (n := 500) (by decide)
 have c1 := pick8_hi (c := n.tdiv 7) (n := 500) (by decide)
 have d0 := pick8_lo (c := n.tdiv (2 + (i : Nat))) (n := 20000000) (by decide)
 have d1 := pick8_hi (c := n.tdiv (2 + (i : Nat))) (n := 20000000) (by decide)
 have hA : anB (anA n i) = true := by
  unfold anB anA
  rw [Bool.and_eq_true]
  exact ⟨inB_yes (by dsimp only; omega) (by dsimp only; omega), inB_yes (by dsimp only; omega) (by dsimp only; omega)⟩
 have hZ : anB (anZ n i) = true := by
  unfold anB anZ
  rw [Bool.and_eq_true]
  exact ⟨inB_yes (by dsimp only; omega) (by dsimp only; omega), inB_yes (by dsimp only; omega) (by dsimp only; omega)⟩
 obtain ⟨e0, e1⟩ := fleetN_dr n i
 have hd : inB ((fleetN n).dr.getD i 0) 0 1000 = true := inB_yes e0 e1
 unfold ckB clkN
 dsimp only
 rw [hd]
 split
 · rw [List.all_cons, List.all_cons, hA, hZ]; rfl
 · rw [List.all_cons, hA]; rfl
end Go.Proofs.YtamefmojocegkaaDoor

namespace Go.Proofs.YtamefmojocegkaaDoor
open Go Go.Proofs Go.RowKit Go.Lib
def fdAn (l : List Ev) (x : List Int) (a : Int) : List An := ((List.range l.length).filter fun i => (evD l i).ag == a).map fun i => ⟨(evD l i).tm + 1, xD x i + 1⟩
def fdC (f : Fl) (l : List Ev) (x : List Int) (a : Int) : Cl := ⟨f.drOf a, fdAn l x a⟩
def FdOk (f : Fl) (l : List Ev) (x : List Int) (a : Int) : Prop :=
 evsB f l = true ∧ timesB l.length x = true ∧ 0 ≤ a ∧ a < (f.dr.length : Int) ∧ ckB (fdC f l x a) = true ∧
 ∀ i j, i < j → j < l.length → (evD l i).ag = a → (evD l j).ag = a → shB (f.drOf a) ((evD l j).tm - (evD l i).tm) (xD x i) (xD x j) = true
noncomputable def fdB (f : Fl) (l : List Ev) (x : List Int) (a : Int) : Bool := @decide (FdOk f l x a) (Classical.propDecidable _)
theorem fdB_yes {f : Fl} {l : List Ev} {x : List Int} {a : Int} (h : FdOk f l x a) : fdB f l x a = true := @decide_eq_true _ (Classical.propDecidable _) h
theorem fdB_no {f : Fl} {l : List Ev} {x : List Int} {a : Int} (h : ¬ FdOk f l x a) : fdB f l x a = false := @decide_eq_false _ (Classical.propDecidable _) h
theorem of_fdB {f : Fl} {l : List Ev} {x : List Int} {a : Int} (h : fdB f l x a = true) : FdOk f l x a := @of_decide_eq_true _ (Classical.propDecidable _) h
noncomputable def fdV (f : Fl) (l : List Ev) (x : List Int) (a : Int) : Cl := if fdB f l x a = true then fdC f l x a else ⟨0, []⟩
noncomputable def fdE (f : Fl) (l : List Ev) (x : List Int) (a : Int) : Int := if fdB f l x a = true then 0 else 80
def FindPost (w : World) (c : Cl) (er : Int) (e : Ending) (w' : World) : Prop := ∃ ad cp, e = .returned (.tuple #[.agg #[.int .i64 c.dr, .slice ad c.an.length cp], .int .i64 er]) ∧ c.an.length ≤ cp ∧ RN KA w' w.heap.size ad c.an ∧ Below w.heap.size w w'
/-! ### the law's examples -/
def sF : Fl := ⟨[0], 5, 0, [0], [0]⟩
def sF0 : Fl := ⟨[], 0, 0, [], []⟩
def sE0 : Ev := ⟨0, 0, 5, 1, 0, 0, -1, 0, 0, 0, 0, 0⟩
def sE1 : Ev := ⟨0, 1, 7, 2, 0, 0, 0, 0, 0, 0, 0, 0⟩
def sD : Cl := ⟨0, [⟨6, 1⟩]⟩
theorem s_ev0 : evB sE0 = true := by decide
theorem s_evz : evB zE = false := by decide
theorem s_fl : flB sF = true := by decide
theorem s_flz : flB sF0 = false := by decide
theorem s_ck : ckB sD = true := by decide
theorem s_ckz : ckB ⟨0, []⟩ = false := by decide
theorem two_cases {i : Nat} (h : i < 2) : i = 0 ∨ i = 1 := by omega
theorem s_evs : evsB sF [sE0, sE1] = true := evsB_yes ⟨by decide, by decide, fun i hi => by
 rcases two_cases hi with rfl | rfl <;> (unfold StepOk; decide)⟩
theorem s_evs2 : evsB sF [sE1, sE0] = false := evsB_no fun h => absurd (h.2.2 1 (by decide)) (by unfold StepOk; decide)
theorem s_con : conL sF [sE0, sE1] = [⟨1, 0, -1000001, 1⟩, ⟨0, 1, 2999999, 1⟩] := by
 unfold conL
 rw [if_pos s_evs]
 rfl
theorem s_conE : conE sF [sE0, sE1] = 0 := by unfold conE; rw [if_pos s_evs]
theorem s_ag1 : agB sF [sE0, sE1] [0, 1000001] 1 = true := agB_yes ⟨s_evs, by decide, fun i j hi hj => by
 rcases two_cases hi with rfl | rfl <;> rcases two_cases hj with rfl | rfl <;> (unfold PairOk; decide +kernel)⟩
theorem s_ag2 : agB sF [sE0, sE1] [0, 1000000] 1 = false := agB_no fun h => absurd (h.2.2 0 1 (by decide) (by decide)) (by unfold PairOk; decide +kernel)
theorem s_ag3 : agB sF [sE0, sE1] [0, 3000000] 1 = false := agB_no fun h => absurd (h.2.2 0 1 (by decide) (by decide)) (by unfold PairOk; decide +kernel)
theorem s_ag4 : agB sF [sE0, sE1] [0, 0] 0 = true := agB_yes ⟨s_evs, by decide, fun i j hi hj => by
 rcases two_cases hi with rfl | rfl <;> rcases two_cases hj with rfl | rfl <;> (unfold PairOk; decide +kernel)⟩
theorem s_r0 : readV sD 0 = 5 := readV_of (by decide) ⟨by decide, by decide⟩
theorem s_r1 : readV sD 1 = 6 := readV_of (by decide) ⟨by decide, by decide⟩
theorem s_r2 : readV sD 1000000 = 6 := readV_of (by decide) ⟨by decide, by decide⟩
theorem s_r3 : readV sD 1000001 = 7 := readV_of (by decide) ⟨by decide, by decide⟩
theorem s_fd1 : FdOk sF [sE0, sE1] [0, 1000001] 0 := ⟨s_evs, by decide, by decide, by decide, by decide, fun i j hij hj _ _ => by
 obtain ⟨rfl, rfl⟩ : i = 0 ∧ j = 1 := by have : j < 2 := hj; omega
 decide +kernel⟩
theorem s_fd2 : ¬ FdOk sF [sE0, sE1] [0, 1000000] 0 := fun h => absurd (h.2.2.2.2.2 0 1 (by decide) (by decide) (by decide) (by decide)) (by decide +kernel)
theorem s_fV1 : fdV sF [sE0, sE1] [0, 1000001] 0 = ⟨0, [⟨6, 1⟩, ⟨8, 1000002⟩]⟩ := by unfold fdV; rw [if_pos (fdB_yes s_fd1)]; rfl
theorem s_fE1 : fdE sF [sE0, sE1] [0, 1000001] 0 = 0 := by unfold fdE; rw [if_pos (fdB_yes s_fd1)]
theorem s_fV2 : fdV sF [sE0, sE1] [0, 1000000] 0 = ⟨0, []⟩ := by unfold fdV; rw [if_neg (by rw [fdB_no s_fd2]; decide)]
theorem s_fE2 : fdE sF [sE0, sE1] [0, 1000000] 0 = 80 := by unfold fdE; rw [if_neg (by rw [fdB_no s_fd2]; decide)]
/-! ### what is asked of the program -/
end Go.Proofs.YtamefmojocegkaaDoor

namespace Go.Proofs.YtamefmojocegkaaDoor
open Go Go.Proofs Go.RowKit Go.Lib
def NewB (w w' : World) : Prop := Below w.heap.size w w'
theorem NewB.below {w w' : World} (h : NewB w w') : Below w.heap.size w w' := h
theorem NewB.alloc {w w' : World} (h : NewB w w') (o : Obj) : NewB w (w'.alloc o) := Below.alloc (show Below w.heap.size w w' from h) (Below.size h) o
theorem newB0 (w : World) : NewB w { w with drawn := w.drawn + 1 } := Grew.below (grew0 w)
def SaneOk (f : FuncId) : Prop := ∀ W, Rdy W → Calls Tryd.prog f #[] W fun e w' => e = .returned (.bool true) ∧ Below W.heap.size W w'
def ReadingOk (f : FuncId) : Prop := ∀ (x : Cl) (ad : Option Addr) (cp : Nat) (t : Int), x.an.length ≤ maxLen → x.an.length ≤ cp → ∀ w : World, RL KA w ad x.an → Calls Tryd.prog f #[.agg #[.int .i64 x.dr, .slice ad x.an.length cp], .int .i64 t] w fun e w' => e = .returned (.tuple #[.int .i64 (readV x t), .int .i64 (readE x t)]) ∧ Below w.heap.size w w'
theorem at_ck8 (g o n c k : Nat) (hk : k < n) (w : World) : (Instr.indexAt 51 (.slice (some ⟨g, o, none⟩) n c) (.int .i64 (k : Int))).run Tryd.prog w = .ok (.pointer (some ⟨g, o + 2 * k, none⟩)) w := KK.at_ g o n c k hk w
end Go.Proofs.YtamefmojocegkaaDoor

namespace Go.Proofs.YtamefmojocegkaaDoor
open Go Go.Proofs Go.RowKit Go.Lib
structure Mk where
 (id now : Int)
 out : List Hp
 ags : List Int
 pars : List Int
 opn : List Bool
 hol : List Int
 (msg g0 g1 g2 : Int)
 (t0 t1 t2 : Bool)
structure Fv where
 a1 : Option Addr
 (n1 c1 : Nat)
 (lat lia : Int)
 a2 : Option Addr
 (n2 c2 : Nat)
 a3 : Option Addr
 (n3 c3 : Nat)
 x : Option Nat
 ob : Obj
def Mk.cells (F : Fv) (s : Mk) (vo va vp vq vh : Value) : List Value :=
 [.slice F.a1 F.n1 F.c1, .int .i64 F.lat, .int .i64 F.lia, .slice F.a2 F.n2 F.c2, .slice F.a3 F.n3 F.c3, .int .i64 s.id, .int .i64 s.now, vo, va, vp, vq, vh, .int .i64 s.msg, .int .i64 s.g0, .int .i64 s.g1, .int .i64 s.g2, .bool s.t0, .bool s.t1, .bool s.t2]
def Apart (l : List (Option Nat)) : Prop := ∀ (i j x : Nat), l[i]? = some (some x) → l[j]? = some (some x) → i = j
theorem Apart.ne {l : List (Option Nat)} (h : Apart l) (i j : Nat) (x : Nat) (hi : l[i]? = some (some x)) (hij : i ≠ j) {o : Option Nat} (hj : l[j]? = some o) : o ≠ some x := by
 rintro rfl
 exact hij (h i j x hi hj)
theorem Apart.set {l : List (Option Nat)} (h : Apart l) (i : Nat) (o : Option Nat) (ho : l[i]? = some o ∨ ∃ x, o = some x ∧ ∀ (j y : Nat), l[j]? = some (some y) → y < x) : Apart (l.set i o) := by
 intro p q x hp hq
 by_cases hpi : p = i <;> by_cases hqi : q = i
 · omega
 · subst hpi
   rw [List.getElem?_set_ne (Ne.symm hqi)] at hq
   have hlt : p < l.length := by
    rcases Nat.lt_or_ge p l.length with h1 | h1
    · exact h1
    · rw [List.getElem?_eq_none (by rw [List.length_set]; exact h1)] at hp; cases hp
   rw [List.getElem?_set_self hlt] at hp
   injection hp with hp
   subst hp
   rcases ho with ho | ⟨y, e, hy⟩
   · exact h _ _ _ ho hq
   · injection e with e; subst e; have := hy _ _ hq; omega
 · subst hqi
   rw [List.getElem?_set_ne (Ne.symm hpi)] at hp
   have hlt : q < l.length := by
    rcases Nat.lt_or_ge q l.length with h1 | h1
    · exact h1
    · rw [List.getElem?_eq_none (by rw [List.length_set]; exact h1)] at hq; cases hq
   rw [List.getElem?_set_self hlt] at hq
   injection hq with hq
   subst hq
   rcases ho with ho | ⟨y, e, hy⟩
   · exact h _ _ _ hp ho
   · injection e with e; subst e; have := hy _ _ hp; omega
 · rw [List.getElem?_set_ne (Ne.symm hpi)] at hp
   rw [List.getElem?_set_ne (Ne.symm hqi)] at hq
   exact h _ _ _ hp hq
def Frame8 (W : World) (base : Nat) (F : Fv) : Prop := ∀ y, F.x = some y → base ≤ y ∧ y < W.heap.size ∧ W.heap[y]? = some F.ob
theorem Frame8.up {n : Nat} {W W' : World} {base : Nat} {F : Fv} (h : Frame8 W base F) (b : Below n W W') (hn : W.heap.size ≤ n) : Frame8 W' base F := fun y hy => by
 obtain ⟨h1, h2, h3⟩ := h y hy
 exact ⟨h1, Nat.lt_of_lt_of_le h2 b.size, (b.block y (Nat.lt_of_lt_of_le h2 hn)).trans h3⟩
theorem Frame8.far {W : World} {base : Nat} {F : Fv} (h : Frame8 W base F) {A i : Nat} {u : Value} (hne : F.x ≠ some A) : Frame8 (W.setCell ⟨A, i, none⟩ u) base F := fun y hy => by
 obtain ⟨h1, h2, h3⟩ := h y hy
 exact ⟨h1, by simpa using h2, (Below.heap_setCell W ⟨A, i, none⟩ u y (by rintro rfl; exact hne hy)).trans h3⟩
theorem Frame8.grown {W W' : World} {base : Nat} {F : Fv} {row : Option Nat} (h : Frame8 W base F) (hg : W.grownBy W' row) (hne : ∀ y, F.x = some y → row ≠ some y) : Frame8 W' base F := fun y hy => by
 obtain ⟨h1, h2, h3⟩ := h y hy
 exact ⟨h1, Nat.lt_of_lt_of_le h2 hg.size, (hg.block y h2 (fun e => hne y hy e.symm)).trans h3⟩
structure MkP (W : World) (base B : Nat) (F : Fv) (s : Mk) (vo va vp vq vh : Value) : Prop where
 cells : CellsAt W B (s.cells F vo va vp vq vh)
 hb : base ≤ B
 ro : Own KH W base vo s.out
 ra : Own KI W base va s.ags
 rp : Own KI W base vp s.pars
 rq : Own KB W base vq s.opn
 rh : Own KI W base vh s.hol
 ap : Apart [some B, vo.ownBlock, va.ownBlock, vp.ownBlock, vq.ownBlock, vh.ownBlock, F.x]
 hx : Frame8 W base F
theorem MkP.lt {W : World} {base B : Nat} {F : Fv} {s : Mk} {vo va vp vq vh : Value} (h : MkP W base B F s vo va vp vq vh) : B < W.heap.size := World.block_lt_of_cell? W ⟨B, 0, none⟩ (h.cells 0 (by simp [Mk.cells])).1
theorem MkP.all_lt {W : World} {base B : Nat} {F : Fv} {s : Mk} {vo va vp vq vh : Value} (h : MkP W base B F s vo va vp vq vh) : ∀ (j y : Nat), [some B, vo.ownBlock, va.ownBlock, vp.ownBlock, vq.ownBlock, vh.ownBlock, F.x][j]? = some (some y) → base ≤ y ∧ y < W.heap.size := by
 intro j y hj
 match j with
 | 0 => injection hj with e; injection e with e; subst e; exact ⟨h.hb, h.lt⟩
 | 1 => injection hj with e; exact h.ro.ge y e
 | 2 => injection hj with e; exact h.ra.ge y e
 | 3 => injection hj with e; exact h.rp.ge y e
 | 4 => injection hj with e; exact h.rq.ge y e
 | 5 => injection hj with e; exact h.rh.ge y e
 | 6 => injection hj with e; exact ⟨(h.hx y e).1, (h.hx y e).2.1⟩
 | j + 7 => cases hj
theorem MkP.up {n : Nat} {W W' : World} {base B : Nat} {F : Fv} {s : Mk} {vo va vp vq vh : Value} (h : MkP W base B F s vo va vp vq vh) (b : Below n W W') (hn : W.heap.size ≤ n) : MkP W' base B F s vo va vp vq vh :=
 ⟨h.cells.up b (Nat.lt_of_lt_of_le h.lt hn), h.hb, h.ro.below b hn, h.ra.below b hn, h.rp.below b hn, h.rq.below b hn, h.rh.below b hn, h.ap, h.hx.up b hn⟩
theorem MkP.put {W : World} {base B : Nat} {F : Fv} {s : Mk} {vo va vp vq vh : Value} (h : MkP W base B F s vo va vp vq vh) (i : Nat) (u : Value) (s' : Mk) (he : (s.cells F vo va vp vq vh).set i u = s'.cells F vo va vp vq vh)
 (e1 : s'.out = s.out) (e2 : s'.ags = s.ags) (e3 : s'.pars = s.pars) (e4 : s'.opn = s.opn) (e5 : s'.hol = s.hol) : MkP (W.setCell ⟨B, i, none⟩ u) base B F s' vo va vp vq vh := by
 refine ⟨by rw [← he]; exact h.cells.put i u, h.hb, ?_, ?_, ?_, ?_, ?_, h.ap, h.hx.far (h.ap.ne 0 6 B rfl (by decide) rfl)⟩
 · rw [e1]; exact h.ro.far (h.ap.ne 0 1 B rfl (by decide) rfl)
 · rw [e2]; exact h.ra.far (h.ap.ne 0 2 B rfl (by decide) rfl)
 · rw [e3]; exact h.rp.far (h.ap.ne 0 3 B rfl (by decide) rfl)
 · rw [e4]; exact h.rq.far (h.ap.ne 0 4 B rfl (by decide) rfl)
 · rw [e5]; exact h.rh.far (h.ap.ne 0 5 B rfl (by decide) rfl)
theorem own_grown8 {w w' : World} {base : Nat} {T : Type} {K : RowK T} {v : Value} {l : List T} {row : Option Nat} (h : Own K w base v l) (hg : w.grownBy w' row) (hne : ∀ j, v.ownBlock = some j → row ≠ some j) : Own K w' base v l :=
 own_move8 h fun j hj => hg.block j (h.ge j hj).2 (fun e => hne j hj e.symm)
theorem cells_grown8 {W W' : World} {B : Nat} {F : Fv} {s : Mk} {vo va vp vq vh : Value} {row : Option Nat} (h : CellsAt W B (s.cells F vo va vp vq vh)) (hg : W.grownBy W' row) (hne : some B ≠ row) : CellsAt W' B (s.cells F vo va vp vq vh) := CellsAt.grown h hg hne
theorem MkP.push_out {W W' : World} {base B : Nat} {F : Fv} {s : Mk} {vo va vp vq vh v' : Value} {x : Hp} (h : MkP W base B F s vo va vp vq vh) (ho : Own KH W' base v' (s.out ++ [x])) (hg : W.grownBy W' vo.ownBlock) (hk : v'.ownBlock = vo.ownBlock ∨ v'.ownBlock = some W.heap.size) :
 MkP (W'.setCell ⟨B, 7, none⟩ v') base B F { s with out := s.out ++ [x] } v' va vp vq vh := by
 have ap' : Apart [some B, v'.ownBlock, va.ownBlock, vp.ownBlock, vq.ownBlock, vh.ownBlock, F.x] := by
  have := h.ap.set 1 v'.ownBlock (by
   rcases hk with hk | hk
   · left; rw [hk]; rfl
   · right; exact ⟨_, hk, fun j y hj => (h.all_lt j y hj).2⟩)
  exact this
 have hc : CellsAt W' B (s.cells F vo va vp vq vh) := cells_grown8 h.cells hg (fun e => h.ap.ne 0 1 B rfl (by decide) rfl e.symm)
 exact ⟨hc.put 7 v', h.hb, ho.far (ap'.ne 0 1 B rfl (by decide) rfl), (own_grown8 h.ra hg (fun j e => by have := h.ap.ne 2 1 j (by show some _ = _; rw [e]) (by decide) rfl; exact this)).far (h.ap.ne 0 2 B rfl (by decide) rfl), (own_grown8 h.rp hg (fun j e => by have := h.ap.ne 3 1 j (by show some _ = _; rw [e]) (by decide) rfl; exact this)).far (h.ap.ne 0 3 B rfl (by decide) rfl), (own_grown8 h.rq hg (fun j e => by have := h.ap.ne 4 1 j (by show some _ = _; rw [e]) (by decide) rfl; exact this)).far (h.ap.ne 0 4 B rfl (by decide) rfl), (own_grown8 h.rh hg (fun j e => by have := h.ap.ne 5 1 j (by show some _ = _; rw [e]) (by decide) rfl; exact this)).far (h.ap.ne 0 5 B rfl (by decide) rfl), ap', (h.hx.grown hg (fun y e => by have := h.ap.ne 6 1 y (by show some F.x = _; rw [e]) (by decide) rfl; exact this)).far (h.ap.ne 0 6 B rfl (by decide) rfl)⟩
theorem MkP.push_ags {W W' : World} {base B : Nat} {F : Fv} {s : Mk} {vo va vp vq vh v' : Value} {x : Int} (h : MkP W base B F s vo va vp vq vh) (ho : Own KI W' base v' (s.ags ++ [x])) (hg : W.grownBy W' va.ownBlock) (hk : v'.ownBlock = va.ownBlock ∨ v'.ownBlock = some W.heap.size) :
 MkP (W'.setCell ⟨B, 8, none⟩ v') base B F { s with ags := s.ags ++ [x] } vo v' vp vq vh := by
 have ap' : Apart [some B, vo.ownBlock, v'.ownBlock, vp.ownBlock, vq.ownBlock, vh.ownBlock, F.x] := by
  have := h.ap.set 2 v'.ownBlock (by
   rcases hk with hk | hk
   · left; rw [hk]; rfl
   · right; exact ⟨_, hk, fun j y hj => (h.all_lt j y hj).2⟩)
  exact this
 have hc : CellsAt W' B (s.cells F vo va vp vq vh) := cells_grown8 h.cells hg (fun e => h.ap.ne 0 2 B rfl (by decide) rfl e.symm)
 exact ⟨hc.put 8 v', h.hb, (own_grown8 h.ro hg (fun j e => by have := h.ap.ne 1 2 j (by show some _ = _; rw [e]) (by decide) rfl; exact this)).far (h.ap.ne 0 1 B rfl (by decide) rfl), ho.far (ap'.ne 0 2 B rfl (by decide) rfl), (own_grown8 h.rp hg (fun j e => by have := h.ap.ne 3 2 j (by show some _ = _; rw [e]) (by decide) rfl; exact this)).far (h.ap.ne 0 3 B rfl (by decide) rfl), (own_grown8 h.rq hg (fun j e => by have := h.ap.ne 4 2 j (by show some _ = _; rw [e]) (by decide) rfl; exact this)).far (h.ap.ne 0 4 B rfl (by decide) rfl), (own_grown8 h.rh hg (fun j e => by have := h.ap.ne 5 2 j (by show some _ = _; rw [e]) (by decide) rfl; exact this)).far (h.ap.ne 0 5 B rfl (by decide) rfl), ap', (h.hx.grown hg (fun y e => by have := h.ap.ne 6 2 y (by show some F.x = _; rw [e]) (by decide) rfl; exact this)).far (h.ap.ne 0 6 B rfl (by decide) rfl)⟩
theorem MkP.push_pars {W W' : World} {base B : Nat} {F : Fv} {s : Mk} {vo va vp vq vh v' : Value} {x : Int} (h : MkP W base B F s vo va vp vq vh) (ho : Own KI W' base v' (s.pars ++ [x])) (hg : W.grownBy W' vp.ownBlock) (hk : v'.ownBlock = vp.ownBlock ∨ v'.ownBlock = some W.heap.size) :
 MkP (W'.setCell ⟨B, 9, none⟩ v') base B F { s with pars := s.pars ++ [x] } vo va v' vq vh := by
 have ap' : Apart [some B, vo.ownBlock, va.ownBlock, v'.ownBlock, vq.ownBlock, vh.ownBlock, F.x] := by
  have := h.ap.set 3 v'.ownBlock (by
   rcases hk with hk | hk
   · left; rw [hk]; rfl
   · right; exact ⟨_, hk, fun j y hj => (h.all_lt j y hj).2⟩)
  exact this
 have hc : CellsAt W' B (s.cells F vo va vp vq vh) := cells_grown8 h.cells hg (fun e => h.ap.ne 0 3 B rfl (by decide) rfl e.symm)
 exact ⟨hc.put 9 v', h.hb, (own_grown8 h.ro hg (fun j e => by have := h.ap.ne 1 3 j (by show some _ = _; rw [e]) (by decide) rfl; exact this)).far (h.ap.ne 0 1 B rfl (by decide) rfl), (own_grown8 h.ra hg (fun j e => by have := h.ap.ne 2 3 j (by show some _ = _; rw [e]) (by decide) rfl; exact this)).far (h.ap.ne 0 2 B rfl (by decide) rfl), ho.far (ap'.ne 0 3 B rfl (by decide) rfl), (own_grown8 h.rq hg (fun j e => by have := h.ap.ne 4 3 j (by show some _ = _; rw [e]) (by decide) rfl; exact this)).far (h.ap.ne 0 4 B rfl (by decide) rfl), (own_grown8 h.rh hg (fun j e => by have := h.ap.ne 5 3 j (by show some _ = _; rw [e]) (by decide) rfl; exact this)).far (h.ap.ne 0 5 B rfl (by decide) rfl), ap', (h.hx.grown hg (fun y e => by have := h.ap.ne 6 3 y (by show some F.x = _; rw [e]) (by decide) rfl; exact this)).far (h.ap.ne 0 6 B rfl (by decide) rfl)⟩
theorem MkP.push_opn {W W' : World} {base B : Nat} {F : Fv} {s : Mk} {vo va vp vq vh v' : Value} {x : Bool} (h : MkP W base B F s vo va vp vq vh) (ho : Own KB W' base v' (s.opn ++ [x])) (hg : W.grownBy W' vq.ownBlock) (hk : v'.ownBlock = vq.ownBlock ∨ v'.ownBlock = some W.heap.size) :
 MkP (W'.setCell ⟨B, 10, none⟩ v') base B F { s with opn := s.opn ++ [x] } vo va vp v' vh := by
 have ap' : Apart [some B, vo.ownBlock, va.ownBlock, vp.ownBlock, v'.ownBlock, vh.ownBlock, F.x] := by
  have := h.ap.set 4 v'.ownBlock (by
   rcases hk with hk | hk
   · left; rw [hk]; rfl
   · right; exact ⟨_, hk, fun j y hj => (h.all_lt j y hj).2⟩)
  exact this
 have hc : CellsAt W' B (s.cells F vo va vp vq vh) := cells_grown8 h.cells hg (fun e => h.ap.ne 0 4 B rfl (by decide) rfl e.symm)
 exact ⟨hc.put 10 v', h.hb, (own_grown8 h.ro hg (fun j e => by have := h.ap.ne 1 4 j (by show some _ = _; rw [e]) (by decide) rfl; exact this)).far (h.ap.ne 0 1 B rfl (by decide) rfl), (own_grown8 h.ra hg (fun j e => by have := h.ap.ne 2 4 j (by show some _ = _; rw [e]) (by decide) rfl; exact this)).far (h.ap.ne 0 2 B rfl (by decide) rfl), (own_grown8 h.rp hg (fun j e => by have := h.ap.ne 3 4 j (by show some _ = _; rw [e]) (by decide) rfl; exact this)).far (h.ap.ne 0 3 B rfl (by decide) rfl), ho.far (ap'.ne 0 4 B rfl (by decide) rfl), (own_grown8 h.rh hg (fun j e => by have := h.ap.ne 5 4 j (by show some _ = _; rw [e]) (by decide) rfl; exact this)).far (h.ap.ne 0 5 B rfl (by decide) rfl), ap', (h.hx.grown hg (fun y e => by have := h.ap.ne 6 4 y (by show some F.x = _; rw [e]) (by decide) rfl; exact this)).far (h.ap.ne 0 6 B rfl (by decide) rfl)⟩
theorem MkP.push_hol {W W' : World} {base B : Nat} {F : Fv} {s : Mk} {vo va vp vq vh v' : Value} {x : Int} (h : MkP W base B F s vo va vp vq vh) (ho : Own KI W' base v' (s.hol ++ [x])) (hg : W.grownBy W' vh.ownBlock) (hk : v'.ownBlock = vh.ownBlock ∨ v'.ownBlock = some W.heap.size) :
 MkP (W'.setCell ⟨B, 11, none⟩ v') base B F { s with hol := s.hol ++ [x] } vo va vp vq v' := by
 have ap' : Apart [some B, vo.ownBlock, va.ownBlock, vp.ownBlock, vq.ownBlock, v'.ownBlock, F.x] := by
  have := h.ap.set 5 v'.ownBlock (by
   rcases hk with hk | hk
   · left; rw [hk]; rfl
   · right; exact ⟨_, hk, fun j y hj => (h.all_lt j y hj).2⟩)
  exact this
 have hc : CellsAt W' B (s.cells F vo va vp vq vh) := cells_grown8 h.cells hg (fun e => h.ap.ne 0 5 B rfl (by decide) rfl e.symm)
 exact ⟨hc.put 11 v', h.hb, (own_grown8 h.ro hg (fun j e => by have := h.ap.ne 1 5 j (by show some _ = _; rw [e]) (by decide) rfl; exact this)).far (h.ap.ne 0 1 B rfl (by decide) rfl), (own_grown8 h.ra hg (fun j e => by have := h.ap.ne 2 5 j (by show some _ = _; rw [e]) (by decide) rfl; exact this)).far (h.ap.ne 0 2 B rfl (by decide) rfl), (own_grown8 h.rp hg (fun j e => by have := h.ap.ne 3 5 j (by show some _ = _; rw [e]) (by decide) rfl; exact this)).far (h.ap.ne 0 3 B rfl (by decide) rfl), (own_grown8 h.rq hg (fun j e => by have := h.ap.ne 4 5 j (by show some _ = _; rw [e]) (by decide) rfl; exact this)).far (h.ap.ne 0 4 B rfl (by decide) rfl), ho.far (ap'.ne 0 5 B rfl (by decide) rfl), ap', (h.hx.grown hg (fun y e => by have := h.ap.ne 6 5 y (by show some F.x = _; rw [e]) (by decide) rfl; exact this)).far (h.ap.ne 0 6 B rfl (by decide) rfl)⟩
theorem MkP.set_opn {W : World} {base B g n c : Nat} {F : Fv} {s : Mk} {vo va vp vh : Value} {x : Bool} (h : MkP W base B F s vo va vp (.slice (some ⟨g, 0, none⟩) n c) vh) (i : Nat) (hi : i < s.opn.length) :
 MkP (W.setCell ⟨g, i, none⟩ (.bool x)) base B F { s with opn := s.opn.set i x } vo va vp (.slice (some ⟨g, 0, none⟩) n c) vh := by
 have hp := h.rq.put i hi 0 (by decide) x (.bool x) rfl
 rw [show KB.n * i + 0 = i by show 1 * i + 0 = i; omega] at hp
 exact ⟨h.cells.far (by have := h.ap.ne 4 0 g rfl (by decide) rfl; intro e; exact this (by rw [e])), h.hb, h.ro.far (by have := h.ap.ne 4 1 g rfl (by decide) rfl; exact this), h.ra.far (by have := h.ap.ne 4 2 g rfl (by decide) rfl; exact this), h.rp.far (by have := h.ap.ne 4 3 g rfl (by decide) rfl; exact this), hp.1, h.rh.far (by have := h.ap.ne 4 5 g rfl (by decide) rfl; exact this), h.ap, h.hx.far (by have := h.ap.ne 4 6 g rfl (by decide) rfl; exact this)⟩
theorem MkP.set_hol {W : World} {base B g n c : Nat} {F : Fv} {s : Mk} {vo va vp vq : Value} {x : Int} (h : MkP W base B F s vo va vp vq (.slice (some ⟨g, 0, none⟩) n c)) (i : Nat) (hi : i < s.hol.length) :
 MkP (W.setCell ⟨g, i, none⟩ (.int .i64 x)) base B F { s with hol := s.hol.set i x } vo va vp vq (.slice (some ⟨g, 0, none⟩) n c) := by
 have hp := h.rh.put i hi 0 (by decide) x (.int .i64 x) rfl
 rw [show KI.n * i + 0 = i by show 1 * i + 0 = i; omega] at hp
 exact ⟨h.cells.far (by have := h.ap.ne 5 0 g rfl (by decide) rfl; intro e; exact this (by rw [e])), h.hb, h.ro.far (by have := h.ap.ne 5 1 g rfl (by decide) rfl; exact this), h.ra.far (by have := h.ap.ne 5 2 g rfl (by decide) rfl; exact this), h.rp.far (by have := h.ap.ne 5 3 g rfl (by decide) rfl; exact this), h.rq.far (by have := h.ap.ne 5 4 g rfl (by decide) rfl; exact this), hp.1, h.ap, h.hx.far (by have := h.ap.ne 5 6 g rfl (by decide) rfl; exact this)⟩
def MkAt (W : World) (base B : Nat) (F : Fv) (s : Mk) : Prop := ∃ vo va vp vq vh, MkP W base B F s vo va vp vq vh
def addM (s : Mk) (i : Nat) (e : Ev) : Mk := { s with out := s.out ++ [⟨{ e with tr := s.id, sp := i, ag := s.ags.getD i 0, bt := 10 + pick8 (7 * (s.out.length : Nat) + s.id) 90 }, s.now⟩], now := s.now + 1 }
def Mk.small (s : Mk) : Prop := (0 ≤ s.id ∧ s.id ≤ 999) ∧ (0 ≤ s.now ∧ s.now ≤ 1000000000000) ∧ s.out.length ≤ 1000 ∧ (0 ≤ s.msg ∧ s.msg ≤ 1000) ∧ (0 ≤ s.g0 ∧ s.g0 ≤ 1000) ∧ (0 ≤ s.g1 ∧ s.g1 ≤ 1000) ∧ (0 ≤ s.g2 ∧ s.g2 ≤ 1000)
def Done (W : World) (base B : Nat) (F : Fv) (s : Mk) (e : Ending) (w' : World) : Prop := e = .returned (.tuple #[]) ∧ MkAt w' base B F s ∧ Below base W w'
end Go.Proofs.YtamefmojocegkaaDoor

namespace Go.Proofs.YtamefmojocegkaaDoor
open Go Go.Proofs Go.RowKit Go.Lib
theorem eq_c4 (a b c d a' b' c' d' : Int) (W : World) : (Op.equalIn 10000 64 (.agg #[.int .i64 a, .int .i64 b, .int .i64 c, .int .i64 d]) (.agg #[.int .i64 a', .int .i64 b', .int .i64 c', .int .i64 d'])).run Tryd.prog W = .ok (decide (a = a' ∧ b = b' ∧ c = c' ∧ d = d')) W := by
 by_cases h1 : a = a' <;> by_cases h2 : b = b' <;> by_cases h3 : c = c' <;> by_cases h4 : d = d'
 all_goals go_simp
instance : DecidableEq C4 := fun a b => by
 rcases a with ⟨a1, a2, a3, a4⟩
 rcases b with ⟨b1, b2, b3, b4⟩
 exact if h : a1 = b1 ∧ a2 = b2 ∧ a3 = b3 ∧ a4 = b4 then isTrue (by obtain ⟨rfl, rfl, rfl, rfl⟩ := h; rfl) else isFalse (fun e => h (by injection e with e1 e2 e3 e4; exact ⟨e1, e2, e3, e4⟩))
theorem RL.c4 {W : World} {ad : Option Addr} {l : List C4} (h : RL KC W ad l) (k : Nat) (hk : k < l.length) : ∃ b o, ad = some ⟨b, o, none⟩ ∧ b < W.heap.size ∧ ∀ W', Below W.heap.size W W' →
 W'.cell? ⟨b, o + 4 * k, none⟩ = some (.int .i64 l[k].f) ∧ W'.cell? ⟨b, o + 4 * k + 1, none⟩ = some (.int .i64 l[k].t) ∧ W'.cell? ⟨b, o + 4 * k + 2, none⟩ = some (.int .i64 l[k].w) ∧ W'.cell? ⟨b, o + 4 * k + 3, none⟩ = some (.int .i64 l[k].a) := by
 obtain ⟨b, o, h1, h2, h3⟩ := h.at_ k hk
 refine ⟨b, o, h1, h2, fun W' hb => ?_⟩
 have := h3 W' hb
 exact ⟨this 0 (by decide), this 1 (by decide), this 2 (by decide), this 3 (by decide)⟩
theorem at_c4 (g o n c k : Nat) (hk : k < n) (w : World) : (Instr.indexAt 36 (.slice (some ⟨g, o, none⟩) n c) (.int .i64 (k : Int))).run Tryd.prog w = .ok (.pointer (some ⟨g, o + 4 * k, none⟩)) w := KC.at_ g o n c k hk w
end Go.Proofs.YtamefmojocegkaaDoor

namespace Go.Proofs.YtamefmojocegkaaDoor
open Go Go.Proofs Go.RowKit Go.Lib
theorem CellsAt.rnK {T : Type} (K : RowK T) {W : World} {base g : Nat} {l : List T} (h : CellsAt W g (K.vs l)) (hb : base ≤ g) (hg : g < W.heap.size) : RN K W base (some ⟨g, 0, none⟩) l := by
 refine .inr ⟨g, 0, rfl, hb, hg, fun i hi j hj => ?_⟩
 have hl := K.vs_length l
 have hij : K.n * i + j < (K.vs l).length := by
  rw [hl]
  have : K.n * (i + 1) ≤ K.n * l.length := Nat.mul_le_mul_left _ hi
  rw [Nat.mul_add, Nat.mul_one, Nat.mul_comm K.n l.length] at this
  omega
 rw [Nat.zero_add, (h _ hij).1, ← K.vs_get l i j hi hj, List.getElem?_eq_getElem hij]
def SinglePost (w : World) (e : Ending) (w' : World) : Prop := ∃ v, e = .returned v ∧ FlAt w' v sF ∧ Below w.heap.size w w'
theorem single_any (w : World) : Calls Tryd.prog 35 #[] w (SinglePost w) := by
 obtain ⟨w1, V1, Z1, K1, B1⟩ := lay8 w [.slice none 0 0, .int .i64 0, .int .i64 0, .slice none 0 0, .slice none 0 0] 24
 obtain ⟨w2, V2, Z2, K2, B2⟩ := lay8 w1 [.int .i64 0] 3
 obtain ⟨w3, V3, Z3, K3, B3⟩ := lay8 w2 [.int .i64 0] 3
 obtain ⟨w4, V4, Z4, K4, B4⟩ := lay8 w3 [.int .i64 0] 3
 rw [Z1] at Z2 K2 B2
 rw [Z2] at Z3 K3 B3
 rw [Z3] at Z4 K4 B4
 simp only [Nat.add_assoc, Nat.reduceAdd] at Z2 Z3 Z4 K3 K4 B3 B4
 have F1 := ((K1.up B2 (by omega)).up B3 (by omega)).up B4 (by omega)
 have F2 := (K2.up B3 (by omega)).up B4 (by omega)
 have F3 := K3.up B4 (by omega)
 have HB := Lib.hid (show Below w.heap.size w w4 from B1.trans ((B2.mono (by omega)).trans ((B3.mono (by omega)).trans (B4.mono (by omega)))))
 obtain ⟨wf, VF, FF, FB⟩ : ∃ wf, (((((w4.setCell ⟨w.heap.size, 0, none⟩ (.slice (some ⟨w.heap.size + 1, 0, none⟩) 1 1)).setCell ⟨w.heap.size, 1, none⟩ (.int .i64 5)).setCell ⟨w.heap.size, 2, none⟩ (.int .i64 0)).setCell ⟨w.heap.size, 3, none⟩ (.slice (some ⟨w.heap.size + 2, 0, none⟩) 1 1)).setCell ⟨w.heap.size, 4, none⟩ (.slice (some ⟨w.heap.size + 3, 0, none⟩) 1 1)) = wf ∧ CellsAt wf w.heap.size [.slice (some ⟨w.heap.size + 1, 0, none⟩) 1 1, .int .i64 5, .int .i64 0, .slice (some ⟨w.heap.size + 2, 0, none⟩) 1 1, .slice (some ⟨w.heap.size + 3, 0, none⟩) 1 1] ∧ Below w.heap.size w wf :=
  ⟨_, rfl, ((((F1.put 0 _).put 1 _).put 2 _).put 3 _).put 4 _, ((((HB.out.setCell (by simp) _).setCell (by simp) _).setCell (by simp) _).setCell (by simp) _).setCell (by simp) _⟩
 have HP := Lib.hid (show SinglePost w (.returned (.agg #[.slice (some ⟨w.heap.size + 1, 0, none⟩) 1 1, .int .i64 5, .int .i64 0, .slice (some ⟨w.heap.size + 2, 0, none⟩) 1 1, .slice (some ⟨w.heap.size + 3, 0, none⟩) 1 1])) wf from by
  refine ⟨_, rfl, ⟨_, _, _, _, _, _, rfl, ?_, ?_, ?_⟩, FB⟩
  · subst VF
    exact (CellsAt.rn (l := [0]) (base := w.heap.size) (((((F2.far (by omega)).far (by omega)).far (by omega)).far (by omega)).far (by omega)) (by omega) (by simp; omega)).rl
  · subst VF
    exact (CellsAt.rn (l := [0]) (base := w.heap.size) (((((F3.far (by omega)).far (by omega)).far (by omega)).far (by omega)).far (by omega)) (by omega) (by simp; omega)).rl
  · subst VF
    exact (CellsAt.rn (l := [0]) (base := w.heap.size) (((((K4.far (by omega)).far (by omega)).far (by omega)).far (by omega)).far (by omega)) (by omega) (by simp; omega)).rl)
 have f0 := (FF 0 (by simp)).1; have f1 := (FF 1 (by simp)).1; have f2 := (FF 2 (by simp)).1; have f3 := (FF 3 (by simp)).1; have f4 := (FF 4 (by simp)).1
 simp only [List.getElem_cons_zero, List.getElem_cons_succ] at f0 f1 f2 f3 f4
 obtain ⟨g0, g0'⟩ := F1 0 (by simp); obtain ⟨g1, g1'⟩ := F1 1 (by simp); obtain ⟨g2, g2'⟩ := F1 2 (by simp); obtain ⟨g3, g3'⟩ := F1 3 (by simp); obtain ⟨g4, g4'⟩ := F1 4 (by simp)
 clear F1 F2 F3 K1 K2 K3 K4 B1 B2 B3 B4 FF FB HB
 go_enter Tryd.func35, Tryd.ntmps35
 go_wp2_with fail
 exact bodyPost_ret (v := .agg #[.slice (some ⟨w.heap.size + 1, 0, none⟩) 1 1, .int .i64 5, .int .i64 0, .slice (some ⟨w.heap.size + 2, 0, none⟩) 1 1, .slice (some ⟨w.heap.size + 3, 0, none⟩) 1 1]) (by simp [results, Tryd.results35, go_sem, f0, f1, f2, f3, f4]) rfl HP.out
end Go.Proofs.YtamefmojocegkaaDoor

namespace Go.Proofs.YtamefmojocegkaaDoor
open Go Go.Proofs Go.RowKit Go.Lib
def lastN (a : An) (dr t : Int) : Int := if a.t ≤ t then a.a + (t - a.t).tdiv (1000000 - dr) else a.a - (a.t - t + (1000000 + dr) - 1).tdiv (1000000 + dr)
theorem lastN_iff {a : An} {dr t r : Int} (d0 : 0 ≤ dr) (d1 : dr ≤ 1000) : begA dr r a ≤ t ↔ r ≤ lastN a dr t := by
 unfold begA lastN
 by_cases ht : a.t ≤ t
 · rw [if_pos ht, Int.tdiv_eq_ediv_of_nonneg (by omega)]
   have hk : (0 : Int) < 1000000 - dr := by omega
   by_cases hr : r < a.a
   · rw [if_pos hr]
     have h1 : (r - a.a) * (1000000 + dr) ≤ 0 := Int.mul_nonpos_of_nonpos_of_nonneg (by omega) (by omega)
     have h2 : 0 ≤ (t - a.t) / (1000000 - dr) := Int.ediv_nonneg (by omega) (by omega)
     constructor <;> intro _ <;> omega
   · rw [if_neg hr]
     have := Int.le_ediv_iff_mul_le (a := r - a.a) (b := t - a.t) hk
     constructor
     · intro h; have := this.2 (by omega); omega
     · intro h; have := this.1 (by omega); omega
 · rw [if_neg ht, Int.tdiv_eq_ediv_of_nonneg (by omega)]
   have hk : (0 : Int) < 1000000 + dr := by omega
   by_cases hr : r < a.a
   · rw [if_pos hr]
     have e : (r - a.a) * (1000000 + dr) = -((a.a - r) * (1000000 + dr)) := by rw [← Int.neg_mul]; congr 1; omega
     rw [e]
     have := Int.ediv_lt_iff_lt_mul (a := a.t - t + (1000000 + dr) - 1) (b := a.a - r + 1) hk
     have e2 : (a.a - r + 1) * (1000000 + dr) = (a.a - r) * (1000000 + dr) + (1000000 + dr) := by rw [Int.add_mul, Int.one_mul]
     rw [e2] at this
     constructor
     · intro h; have := this.2 (by omega); omega
     · intro h; have := this.1 (by omega); omega
   · rw [if_neg hr]
     have h1 : 0 ≤ (r - a.a) * (1000000 - dr) := Int.mul_nonneg (by omega) (by omega)
     have := Int.le_ediv_iff_mul_le (a := 1) (b := a.t - t + (1000000 + dr) - 1) hk
     have h2 := this.2 (by omega)
     constructor <;> intro _ <;> omega
theorem td_bd8 {x k : Int} (h0 : 0 ≤ x) (hk : 1 ≤ k) : 0 ≤ x.tdiv k ∧ x.tdiv k ≤ x := by
 rw [Int.tdiv_eq_ediv_of_nonneg h0]
 exact ⟨Int.ediv_nonneg h0 (by omega), Int.ediv_le_self _ h0⟩
theorem lastBegun_u (a : An) (dr t : Int) (ha : anB a = true) (d0 : 0 ≤ dr) (d1 : dr ≤ 1000) (h0 : -17592186044416 ≤ t) (h1 : t ≤ 17592186044416) (w : World) :
 Calls Tryd.prog 55 #[.agg #[.int .i64 a.a, .int .i64 a.t], .int .i64 dr, .int .i64 t] w fun e w' => e = .returned (.int .i64 (lastN a dr t)) ∧ Below w.heap.size w w' := by
 obtain ⟨⟨m0, m1⟩, m2, m3⟩ := anB_of ha
 have u1 := wrapq8 (x := 1000000 - dr) (by omega); have u2 := wrapq8 (x := 1000000 + dr) (by omega)
 have z1 : ¬ (1000000 - dr) = 0 := by omega
 have z2 : ¬ (1000000 + dr) = 0 := by omega
 have HL := Lib.hid (show lastN a dr t = if a.t ≤ t then a.a + (t - a.t).tdiv (1000000 - dr) else a.a - (a.t - t + (1000000 + dr) - 1).tdiv (1000000 + dr) from rfl)
 generalize lastN a dr t = R at *
 obtain ⟨w1, V1, Z1, K1, B1⟩ := lay8 w [.int .i64 a.a, .int .i64 a.t] 60
 obtain ⟨x0, _⟩ := K1 0 (by simp); obtain ⟨x1, _⟩ := K1 1 (by simp)
 simp only [List.getElem_cons_zero, List.getElem_cons_succ] at x0 x1
 have HK := Lib.hid K1
 have HB1 := Lib.hid B1
 clear K1 B1 ha
 go_enter Tryd.func55, Tryd.ntmps55
 by_cases ht : a.t ≤ t
 · have HR := Lib.hid (show R = a.a + (t - a.t).tdiv (1000000 - dr) by rw [HL.out, if_pos ht])
   obtain ⟨q0, q1⟩ := td_bd8 (x := t - a.t) (k := 1000000 - dr) (by omega) (by omega)
   have u3 := wrapq8 (x := t - a.t) (by omega); have u4 := wrapq8 (x := (t - a.t).tdiv (1000000 - dr)) (by omega); have u5 := wrapq8 (x := a.a + (t - a.t).tdiv (1000000 - dr)) (by omega)
   generalize hQ : (t - a.t).tdiv (1000000 - dr) = Q at *
   go_upto_region 3 with fail
   clear V1
   refine wp_region_noPanic ?_
   refine wp_region_Kx (C := Grew w1) [9] 9 #[false, false, false, false, false, false, false, false, false, false] (by kernel_rfl) (by kernel_rfl) (by kernel_rfl) (grew0 _) ?_
   intro wx hwx
   refine wpAnyK_ex (i := 0) rfl (by kernel_rfl) (listed' := #[true, false, false, false, false, false, false, false, false, false]) rfl (fun _ _ _ _ _ h => h) hwx ?_
   apply Exists.intro
   refine ⟨⟨by rfl, fun wy hw => ?_⟩, ?_⟩
   · (have bw := hw.below; go_simp; try (first | (with_reducible rfl) | (with_reducible exact ⟨rfl, rfl⟩)))
   try simp only [Act.put]
   refine wpAnyK_ex (i := 1) rfl (by kernel_rfl) (listed' := #[true, true, false, false, false, false, false, false, false, false]) rfl (fun _ _ _ _ _ h => h) hwx ?_
   apply Exists.intro
   refine ⟨⟨by rfl, fun wy hw => ?_⟩, ?_⟩
   · (have bw := hw.below; have y0 := (show wy.cell? ⟨w.heap.size, 0, none⟩ = some (.int .i64 a.a) from (HK.out.below bw 0 (by simp)).1); go_simp; try (first | (with_reducible rfl) | (with_reducible exact ⟨rfl, rfl⟩)))
   try simp only [Act.put]
   refine wpAnyK_ex (i := 2) rfl (by kernel_rfl) (listed' := #[true, true, true, false, false, false, false, false, false, false]) rfl (fun _ _ _ _ _ h => h) hwx ?_
   apply Exists.intro
   refine ⟨⟨by rfl, fun wy hw => ?_⟩, ?_⟩
   · (have bw := hw.below; go_simp; try (first | (with_reducible rfl) | (with_reducible exact ⟨rfl, rfl⟩)))
   try simp only [Act.put]
   refine wpAnyK_ex (i := 3) rfl (by kernel_rfl) (listed' := #[true, true, true, true, false, false, false, false, false, false]) rfl (fun _ _ _ _ _ h => h) hwx ?_
   apply Exists.intro
   refine ⟨⟨by rfl, fun wy hw => ?_⟩, ?_⟩
   · (have bw := hw.below; go_simp; try (first | (with_reducible rfl) | (with_reducible exact ⟨rfl, rfl⟩)))
   try simp only [Act.put]
   refine wpAnyK_ex (i := 4) rfl (by kernel_rfl) (listed' := #[true, true, true, true, true, false, false, false, false, false]) rfl (fun _ _ _ _ _ h => h) hwx ?_
   apply Exists.intro
   refine ⟨⟨by rfl, fun wy hw => ?_⟩, ?_⟩
   · (have bw := hw.below; have y1 := (show wy.cell? ⟨w.heap.size, 1, none⟩ = some (.int .i64 a.t) from (HK.out.below bw 1 (by simp)).1); go_simp; try (first | (with_reducible rfl) | (with_reducible exact ⟨rfl, rfl⟩)))
   try simp only [Act.put]
   refine wpAnyK_ex (i := 5) rfl (by kernel_rfl) (listed' := #[true, true, true, true, true, true, false, false, false, false]) rfl (fun _ _ _ _ _ h => h) hwx ?_
   apply Exists.intro
   refine ⟨⟨by rfl, fun wy hw => ?_⟩, ?_⟩
   · (have bw := hw.below; go_simp; try (first | (with_reducible rfl) | (with_reducible exact ⟨rfl, rfl⟩)))
   try simp only [Act.put]
   refine wpAnyK_ex (i := 6) rfl (by kernel_rfl) (listed' := #[true, true, true, true, true, true, true, false, false, false]) rfl (fun _ _ _ _ _ h => h) hwx ?_
   apply Exists.intro
   refine ⟨⟨by rfl, fun wy hw => ?_⟩, ?_⟩
   · (have bw := hw.below; go_simp; try (first | (with_reducible rfl) | (with_reducible exact ⟨rfl, rfl⟩)))
   try simp only [Act.put]
   refine wpAnyK_ex (i := 7) rfl (by kernel_rfl) (listed' := #[true, true, true, true, true, true, true, true, false, false]) rfl (fun _ _ _ _ _ h => h) hwx ?_
   apply Exists.intro
   refine ⟨⟨by rfl, fun wy hw => ?_⟩, ?_⟩
   · (have bw := hw.below; go_simp; try (first | (with_reducible rfl) | (with_reducible exact ⟨rfl, rfl⟩)))
   try simp only [Act.put]
   refine wpAnyK_ex (i := 8) rfl (by kernel_rfl) (listed' := #[true, true, true, true, true, true, true, true, true, false]) rfl (fun _ _ _ _ _ h => h) hwx ?_
   apply Exists.intro
   refine ⟨⟨by rfl, fun wy hw => ?_⟩, ?_⟩
   · (have bw := hw.below; go_simp; try (first | (with_reducible rfl) | (with_reducible exact ⟨rfl, rfl⟩)))
   try simp only [Act.put]
   refine wpAnyK_end (by kernel_rfl) ?_
   try simp only [pickOps, List.filterMap_cons, List.filterMap_nil, List.getElem?_toArray, List.getElem?_cons_succ, List.getElem?_cons_zero]
   have HBX := Lib.hid (HB1.out.trans (hwx.below.mono (by omega)))
   clear hwx
   go_wp2_with fail
   refine NoPanic.normal ?_
   go_wp2_with fail
   go_ret
   exact ⟨by rw [HR.out]; rfl, HBX.out⟩
 · have HR := Lib.hid (show R = a.a - (a.t - t + (1000000 + dr) - 1).tdiv (1000000 + dr) by rw [HL.out, if_neg ht])
   have ht2 : decide (a.t ≤ t) = false := decide_eq_false ht
   obtain ⟨q0, q1⟩ := td_bd8 (x := a.t - t + (1000000 + dr) - 1) (k := 1000000 + dr) (by omega) (by omega)
   have u3 := wrapq8 (x := a.t - t) (by omega); have u4 := wrapq8 (x := a.t - t + (1000000 + dr)) (by omega); have u5 := wrapq8 (x := a.t - t + (1000000 + dr) - 1) (by omega)
   have u6 := wrapq8 (x := (a.t - t + (1000000 + dr) - 1).tdiv (1000000 + dr)) (by omega); have u7 := wrapq8 (x := a.a - (a.t - t + (1000000 + dr) - 1).tdiv (1000000 + dr)) (by omega)
   generalize hQ : (a.t - t + (1000000 + dr) - 1).tdiv (1000000 + dr) = Q at *
   go_upto_region 4 with fail
   clear V1
   refine wp_region_noPanic ?_
   refine wp_region_Kx (C := Grew w1) [12] 12 #[false, false, false, false, false, false, false, false, false, false, false, false, false] (by kernel_rfl) (by kernel_rfl) (by kernel_rfl) (grew0 _) ?_
   intro wx hwx
   refine wpAnyK_ex (i := 0) rfl (by kernel_rfl) (listed' := #[true, false, false, false, false, false, false, false, false, false, false, false, false]) rfl (fun _ _ _ _ _ h => h) hwx ?_
   apply Exists.intro
   refine ⟨⟨by rfl, fun wy hw => ?_⟩, ?_⟩
   · (have bw := hw.below; go_simp; try (first | (with_reducible rfl) | (with_reducible exact ⟨rfl, rfl⟩)))
   try simp only [Act.put]
   refine wpAnyK_ex (i := 1) rfl (by kernel_rfl) (listed' := #[true, true, false, false, false, false, false, false, false, false, false, false, false]) rfl (fun _ _ _ _ _ h => h) hwx ?_
   apply Exists.intro
   refine ⟨⟨by rfl, fun wy hw => ?_⟩, ?_⟩
   · (have bw := hw.below; have y0 := (show wy.cell? ⟨w.heap.size, 0, none⟩ = some (.int .i64 a.a) from (HK.out.below bw 0 (by simp)).1); go_simp; try (first | (with_reducible rfl) | (with_reducible exact ⟨rfl, rfl⟩)))
   try simp only [Act.put]
   refine wpAnyK_ex (i := 2) rfl (by kernel_rfl) (listed' := #[true, true, true, false, false, false, false, false, false, false, false, false, false]) rfl (fun _ _ _ _ _ h => h) hwx ?_
   apply Exists.intro
   refine ⟨⟨by rfl, fun wy hw => ?_⟩, ?_⟩
   · (have bw := hw.below; go_simp; try (first | (with_reducible rfl) | (with_reducible exact ⟨rfl, rfl⟩)))
   try simp only [Act.put]
   refine wpAnyK_ex (i := 3) rfl (by kernel_rfl) (listed' := #[true, true, true, true, false, false, false, false, false, false, false, false, false]) rfl (fun _ _ _ _ _ h => h) hwx ?_
   apply Exists.intro
   refine ⟨⟨by rfl, fun wy hw => ?_⟩, ?_⟩
   · (have bw := hw.below; have y1 := (show wy.cell? ⟨w.heap.size, 1, none⟩ = some (.int .i64 a.t) from (HK.out.below bw 1 (by simp)).1); go_simp; try (first | (with_reducible rfl) | (with_reducible exact ⟨rfl, rfl⟩)))
   try simp only [Act.put]
   refine wpAnyK_ex (i := 4) rfl (by kernel_rfl) (listed' := #[true, true, true, true, true, false, false, false, false, false, false, false, false]) rfl (fun _ _ _ _ _ h => h) hwx ?_
   apply Exists.intro
   refine ⟨⟨by rfl, fun wy hw => ?_⟩, ?_⟩
   · (have bw := hw.below; go_simp; try (first | (with_reducible rfl) | (with_reducible exact ⟨rfl, rfl⟩)))
   try simp only [Act.put]
   refine wpAnyK_ex (i := 5) rfl (by kernel_rfl) (listed' := #[true, true, true, true, true, true, false, false, false, false, false, false, false]) rfl (fun _ _ _ _ _ h => h) hwx ?_
   apply Exists.intro
   refine ⟨⟨by rfl, fun wy hw => ?_⟩, ?_⟩
   · (have bw := hw.below; go_simp; try (first | (with_reducible rfl) | (with_reducible exact ⟨rfl, rfl⟩)))
   try simp only [Act.put]
   refine wpAnyK_ex (i := 6) rfl (by kernel_rfl) (listed' := #[true, true, true, true, true, true, true, false, false, false, false, false, false]) rfl (fun _ _ _ _ _ h => h) hwx ?_
   apply Exists.intro
   refine ⟨⟨by rfl, fun wy hw => ?_⟩, ?_⟩
   · (have bw := hw.below; go_simp; try (first | (with_reducible rfl) | (with_reducible exact ⟨rfl, rfl⟩)))
   try simp only [Act.put]
   refine wpAnyK_ex (i := 7) rfl (by kernel_rfl) (listed' := #[true, true, true, true, true, true, true, true, false, false, false, false, false]) rfl (fun _ _ _ _ _ h => h) hwx ?_
   apply Exists.intro
   refine ⟨⟨by rfl, fun wy hw => ?_⟩, ?_⟩
   · (have bw := hw.below; go_simp; try (first | (with_reducible rfl) | (with_reducible exact ⟨rfl, rfl⟩)))
   try simp only [Act.put]
   refine wpAnyK_ex (i := 8) rfl (by kernel_rfl) (listed' := #[true, true, true, true, true, true, true, true, true, false, false, false, false]) rfl (fun _ _ _ _ _ h => h) hwx ?_
   apply Exists.intro
   refine ⟨⟨by rfl, fun wy hw => ?_⟩, ?_⟩
   · (have bw := hw.below; go_simp; try (first | (with_reducible rfl) | (with_reducible exact ⟨rfl, rfl⟩)))
   try simp only [Act.put]
   refine wpAnyK_ex (i := 9) rfl (by kernel_rfl) (listed' := #[true, true, true, true, true, true, true, true, true, true, false, false, false]) rfl (fun _ _ _ _ _ h => h) hwx ?_
   apply Exists.intro
   refine ⟨⟨by rfl, fun wy hw => ?_⟩, ?_⟩
   · (have bw := hw.below; go_simp; try (first | (with_reducible rfl) | (with_reducible exact ⟨rfl, rfl⟩)))
   try simp only [Act.put]
   refine wpAnyK_ex (i := 10) rfl (by kernel_rfl) (listed' := #[true, true, true, true, true, true, true, true, true, true, true, false, false]) rfl (fun _ _ _ _ _ h => h) hwx ?_
   apply Exists.intro
   refine ⟨⟨by rfl, fun wy hw => ?_⟩, ?_⟩
   · (have bw := hw.below; go_simp; try (first | (with_reducible rfl) | (with_reducible exact ⟨rfl, rfl⟩)))
   try simp only [Act.put]
   refine wpAnyK_ex (i := 11) rfl (by kernel_rfl) (listed' := #[true, true, true, true, true, true, true, true, true, true, true, true, false]) rfl (fun _ _ _ _ _ h => h) hwx ?_
   apply Exists.intro
   refine ⟨⟨by rfl, fun wy hw => ?_⟩, ?_⟩
   · (have bw := hw.below; go_simp; try (first | (with_reducible rfl) | (with_reducible exact ⟨rfl, rfl⟩)))
   try simp only [Act.put]
   refine wpAnyK_end (by kernel_rfl) ?_
   try simp only [pickOps, List.filterMap_cons, List.filterMap_nil, List.getElem?_toArray, List.getElem?_cons_succ, List.getElem?_cons_zero]
   have HBX := Lib.hid (HB1.out.trans (hwx.below.mono (by omega)))
   clear hwx
   go_wp2_with fail
   refine NoPanic.normal ?_
   go_wp2_with fail
   go_ret
   exact ⟨by rw [HR.out]; rfl, HBX.out⟩
def minN (dr t : Int) : List An → Int
 | [] => 0
 | a :: l => l.foldl (fun m b => min m (lastN b dr t)) (lastN a dr t)
theorem foldl_min {dr t r : Int} (d0 : 0 ≤ dr) (d1 : dr ≤ 1000) : ∀ (l : List An) (m : Int), r ≤ l.foldl (fun m b => min m (lastN b dr t)) m ↔ (r ≤ m ∧ ∀ b ∈ l, begA dr r b ≤ t)
 | [], m => by simp
 | b :: l, m => by
  rw [List.foldl_cons, foldl_min d0 d1 l (min m (lastN b dr t))]
  constructor
  · rintro ⟨h1, h2⟩
    refine ⟨by omega, fun x hx => ?_⟩
    rcases List.mem_cons.1 hx with rfl | hx
    · exact (lastN_iff d0 d1).2 (by omega)
    · exact h2 x hx
  · rintro ⟨h1, h2⟩
    have := (lastN_iff d0 d1).1 (h2 b List.mem_cons_self)
    exact ⟨by omega, fun x hx => h2 x (List.mem_cons_of_mem _ hx)⟩
theorem minN_iff {dr t r : Int} (d0 : 0 ≤ dr) (d1 : dr ≤ 1000) (l : List An) (hl : l ≠ []) : r ≤ minN dr t l ↔ begN dr r l ≤ t := by
 cases l with
 | nil => exact absurd rfl hl
 | cons a l =>
  show r ≤ l.foldl _ _ ↔ _
  rw [foldl_min d0 d1, ← lastN_iff d0 d1]
  constructor
  · rintro ⟨h1, h2⟩
    obtain ⟨b, hb, e⟩ := begN_mem dr r (a :: l) hl
    rw [e]
    rcases List.mem_cons.1 hb with rfl | hb
    · exact h1
    · exact h2 b hb
  · intro h
    refine ⟨Int.le_trans (begN_ge dr r (a :: l) a List.mem_cons_self) h, fun b hb => Int.le_trans (begN_ge dr r (a :: l) b (List.mem_cons_of_mem _ hb)) h⟩
theorem minN_is {c : Cl} {t : Int} (h : ckB c = true) : IsRead c t (minN c.dr t c.an) := by
 obtain ⟨_, ⟨d0, d1⟩, _, hne⟩ := ckB_of h
 refine ⟨(minN_iff d0 d1 c.an hne).1 (Int.le_refl _), ?_⟩
 refine Classical.byContradiction fun hn => ?_
 have := (minN_iff (t := t) (r := minN c.dr t c.an + 1) d0 d1 c.an hne).2 (by omega)
 omega
theorem readV_min {c : Cl} {t : Int} (h : readB c t = true) : readV c t = minN c.dr t c.an := by
 have hv := h
 unfold readB at hv
 rw [Bool.and_eq_true] at hv
 exact readV_of h (minN_is hv.1)
theorem anch_elem8 : Tryd.prog.underlying 48 = some (.slice (Tryd.prog.elem 48)) := by kernel_rfl
theorem anch_size8 (w : World) : (Go.sizeOf (Tryd.prog.elem 48)).run Tryd.prog w = .ok 2 w := by kernel_rfl
theorem slice_from8 (b o n c : Nat) (hn : 1 ≤ n) (hc : n ≤ c) : ∃ ad, (∀ w, (Instr.slice 48 (.slice (some ⟨b, o, none⟩) n c) (some (.int .i64 1)) none none).run Tryd.prog w = .ok (.slice ad (n - 1) (c - 1)) w) ∧ (2 ≤ n → ad = some ⟨b, o + 2, none⟩) := by
 by_cases h : c = 1
 · refine ⟨some ⟨b, o, none⟩, fun w => ?_, fun h2 => by omega⟩
   rw [run_slice_l w _ _ _ _ anch_elem8 .i64 _ (by omega) (by omega), anch_size8]
   subst h
   simp [Result.andThen, sliced]
 · refine ⟨some ⟨b, o + 2, none⟩, fun w => ?_, fun _ => rfl⟩
   rw [run_slice_l w _ _ _ _ anch_elem8 .i64 _ (by omega) (by omega), anch_size8]
   simp [Result.andThen, sliced, Addr.add, h]
theorem minN_step (dr t : Int) (l : List An) (k : Nat) (h1 : 1 ≤ k) (hk : k < l.length) : minN dr t (l.take (k + 1)) = min (minN dr t (l.take k)) (lastN l[k] dr t) := by
 cases l with
 | nil => exact absurd hk (Nat.not_lt_zero _)
 | cons a l =>
  obtain ⟨j, rfl⟩ : ∃ j, k = j + 1 := ⟨k - 1, by omega⟩
  have hj : j < l.length := by simpa using hk
  simp only [List.take_succ_cons, minN, List.getElem_cons_succ]
  rw [List.take_succ_eq_append_getElem hj, List.foldl_append]
  rfl
end Go.Proofs.YtamefmojocegkaaDoor

namespace Go.Proofs.YtamefmojocegkaaDoor
open Go Go.Proofs Go.RowKit Go.Lib
theorem minN_one (dr t : Int) (l : List An) (h : 0 < l.length) : minN dr t (l.take 1) = lastN l[0] dr t := by
 cases l with
 | nil => exact absurd h (Nat.not_lt_zero _)
 | cons a l => rfl
theorem reading_u (x : Cl) (ad : Option Addr) (cp : Nat) (t : Int) (hl : x.an.length ≤ maxLen) (hcp : x.an.length ≤ cp) (w : World) (hI : RL KA w ad x.an) :
 Calls Tryd.prog 27 #[.agg #[.int .i64 x.dr, .slice ad x.an.length cp], .int .i64 t] w fun e w' => e = .returned (.tuple #[.int .i64 (readV x t), .int .i64 (readE x t)]) ∧ Below w.heap.size w w' := by
 obtain ⟨RV, hRV⟩ : ∃ RV, readV x t = RV := ⟨_, rfl⟩
 obtain ⟨RE, hRE⟩ : ∃ RE, readE x t = RE := ⟨_, rfl⟩
 rw [hRV, hRE]
 have HNO := Lib.hid (fun h : readB x t = false => show RV = 0 ∧ RE = 80 by rw [← hRV, ← hRE]; unfold readV readE; simp [h])
 have HYES := Lib.hid (fun h : readB x t = true => show RV = minN x.dr t x.an ∧ RE = 0 by rw [← hRV, ← hRE]; exact ⟨readV_min h, readE_yes h⟩)
 have HRB := Lib.hid (show readB x t = (ckB x && tmB t) from rfl)
 obtain ⟨w1, V1, Z1, K1, B1⟩ := lay8 w [.int .i64 x.dr, .slice ad x.an.length cp] 50
 have CV := Lib.hid (validClock_u (.agg #[.int .i64 x.dr, .slice ad x.an.length cp]) x w1 ⟨ad, cp, rfl, hI.below B1⟩ hl)
 have CT := Lib.hid (fun W => isTime_u t W)
 have HK1 := Lib.hid K1
 have HB1 := Lib.hid B1
 have HI := Lib.hid hI
 obtain ⟨x0, _⟩ := K1 0 (by simp); obtain ⟨x1, _⟩ := K1 1 (by simp)
 simp only [List.getElem_cons_zero, List.getElem_cons_succ] at x0 x1
 clear hRV hRE K1 B1 hI hl
 go_enter Tryd.func27, Tryd.ntmps27
 go_wp2_with fail
 refine (CV.out).mono ?_
 rintro e w2 ⟨rfl, hb⟩
 have HB2 := Lib.hid (show Below (w.heap.size + 1) w1 w2 by rw [← Z1]; exact hb)
 have HBW := Lib.hid (show Below w.heap.size w w2 from HB1.out.trans (hb.mono (by omega)))
 clear hb x0 x1 V1
 cases hv : ckB x with
 | false =>
  have HF := Lib.hid (HNO.out (by rw [HRB.out, hv]; rfl))
  clear hv
  go_wp2_with fail
  go_ret2
  exact ⟨by rw [HF.out.1, HF.out.2]; rfl, HBW.out⟩
 | true =>
  cases ht : tmB t with
  | false =>
   have HF := Lib.hid (HNO.out (by rw [HRB.out, hv, ht]; rfl))
   rw [ht] at CT
   clear hv ht
   go_wp2_with (first | (go_at_call 54; refine (CT.out _).mono ?_; rintro e z ⟨rfl, rfl⟩))
   go_ret2
   exact ⟨by rw [HF.out.1, HF.out.2]; rfl, HBW.out⟩
  | true =>
   have HF := Lib.hid (HYES.out (by rw [HRB.out, hv, ht]; rfl))
   obtain ⟨hall, ⟨d0, d1⟩, _, hne⟩ := ckB_of hv
   have hn : 1 ≤ x.an.length := List.length_pos_iff.2 hne
   obtain ⟨t0, t1⟩ := of_inB ht
   rw [ht] at CT
   have HLB := Lib.hid (fun (a : An) (ha : anB a = true) W => lastBegun_u a x.dr t ha d0 d1 t0 t1 W)
   have HALL := Lib.hid hall
   obtain ⟨b, o, rfl, hb1, hc0⟩ := HI.out.an 0 hn
   have HC := Lib.hid (show ∀ k (hk : k < x.an.length) W, Below w.heap.size w W → W.cell? ⟨b, o + 2 * k, none⟩ = some (.int .i64 (x.an[k]'hk).a) ∧ W.cell? ⟨b, o + 2 * k + 1, none⟩ = some (.int .i64 (x.an[k]'hk).t) from fun k hk W bw => by
    obtain ⟨b', o', e, _, h⟩ := HI.out.an k hk
    injection e with e
    injection e with e1 e2
    subst e1 e2
    exact h W bw)
   obtain ⟨AD, hsl, had⟩ := slice_from8 b o x.an.length cp hn hcp
   have HST := Lib.hid (fun k h1 hk => minN_step x.dr t x.an k h1 hk)
   have HM1 := Lib.hid (show minN x.dr t (x.an.take 1) = lastN (x.an[0]'hn) x.dr t from minN_one x.dr t x.an hn)
   have HLA := Lib.hid (HLB.out _ (HALL.out _ (List.getElem_mem hn)))
   have hi0 := fun W => at_an8 b o x.an.length cp 0 hn W
   have hn2 : (0 : Int) < (x.an.length : Int) := by omega
   simp only [Nat.mul_zero, Nat.add_zero, Int.ofNat_zero] at hi0
   have HC0 := Lib.hid (fun W bw => HC.out 0 hn W bw)
   simp only [Nat.mul_zero, Nat.add_zero] at HC0
   have HXC := Lib.hid (show ∀ W, Below (w.heap.size + 1) w1 W → W.cell? ⟨w.heap.size, 0, none⟩ = some (.int .i64 x.dr) ∧ W.cell? ⟨w.heap.size, 1, none⟩ = some (.slice (some ⟨b, o, none⟩) x.an.length cp) from fun W bw => ⟨(HK1.out.up bw (by omega) 0 (by simp)).1, (HK1.out.up bw (by omega) 1 (by simp)).1⟩)
   have hz2 : w.heap.size + 1 ≤ w2.heap.size := by have := HB2.out.size; omega
   generalize x.an[0]'hn = a0 at *
   clear hv ht hc0 hb1 hne
   go_upto_region 3 with (first | (go_at_call 54; refine (CT.out _).mono ?_; rintro e z ⟨rfl, rfl⟩))
   refine wp_region_noPanic ?_
   refine wp_region_Kx (C := Grew z) [7, 8] 7 #[false, false, false, false, false, false, false, false, false] (by kernel_rfl) (by kernel_rfl) (by kernel_rfl) (grew0 _) ?_
   intro wx hwx
   refine wpAnyK_ex (i := 0) rfl (by kernel_rfl) (listed' := #[true, false, false, false, false, false, false, false, false]) rfl (fun _ _ _ _ _ h => h) hwx ?_
   apply Exists.intro
   refine ⟨⟨by rfl, fun wy hw => ?_⟩, ?_⟩
   · (have bw := hw.below; go_simp; try (first | (with_reducible rfl) | (with_reducible exact ⟨rfl, rfl⟩)))
   try simp only [Act.put]
   refine wpAnyK_ex (i := 1) rfl (by kernel_rfl) (listed' := #[true, true, false, false, false, false, false, false, false]) rfl (fun _ _ _ _ _ h => h) hwx ?_
   apply Exists.intro
   refine ⟨⟨by rfl, fun wy hw => ?_⟩, ?_⟩
   · (have bw := hw.below; obtain ⟨y0, y1⟩ := HXC.out _ (HB2.out.trans (bw.mono hz2)); go_simp; try (first | (with_reducible rfl) | (with_reducible exact ⟨rfl, rfl⟩)))
   try simp only [Act.put]
   refine wpAnyK_ex (i := 2) rfl (by kernel_rfl) (listed' := #[true, true, true, false, false, false, false, false, false]) rfl (fun _ _ _ _ _ h => h) hwx ?_
   apply Exists.intro
   refine ⟨⟨by rfl, fun wy hw => ?_⟩, ?_⟩
   · (have bw := hw.below; go_simp; try (first | (with_reducible rfl) | (with_reducible exact ⟨rfl, rfl⟩)))
   try simp only [Act.put]
   refine wpAnyK_ex (i := 3) rfl (by kernel_rfl) (listed' := #[true, true, true, true, false, false, false, false, false]) rfl (fun _ _ _ _ _ h => h) hwx ?_
   apply Exists.intro
   refine ⟨⟨by rfl, fun wy hw => ?_⟩, ?_⟩
   · (have bw := hw.below; obtain ⟨v0, v1⟩ := HC0.out _ (HBW.out.trans (bw.mono (by omega))); go_simp; try (first | (with_reducible rfl) | (with_reducible exact ⟨rfl, rfl⟩)))
   try simp only [Act.put]
   refine wpAnyK_ex (i := 4) rfl (by kernel_rfl) (listed' := #[true, true, true, true, true, false, false, false, false]) rfl (fun _ _ _ _ _ h => h) hwx ?_
   apply Exists.intro
   refine ⟨⟨by rfl, fun wy hw => ?_⟩, ?_⟩
   · (have bw := hw.below; go_simp; try (first | (with_reducible rfl) | (with_reducible exact ⟨rfl, rfl⟩)))
   try simp only [Act.put]
   refine wpAnyK_ex (i := 5) rfl (by kernel_rfl) (listed' := #[true, true, true, true, true, true, false, false, false]) rfl (fun _ _ _ _ _ h => h) hwx ?_
   apply Exists.intro
   refine ⟨⟨by rfl, fun wy hw => ?_⟩, ?_⟩
   · (have bw := hw.below; obtain ⟨y0, y1⟩ := HXC.out _ (HB2.out.trans (bw.mono hz2)); go_simp; try (first | (with_reducible rfl) | (with_reducible exact ⟨rfl, rfl⟩)))
   try simp only [Act.put]
   refine wpAnyK_ex (i := 6) rfl (by kernel_rfl) (listed' := #[true, true, true, true, true, true, true, false, false]) rfl (fun _ _ _ _ _ h => h) hwx ?_
   apply Exists.intro
   refine ⟨⟨by rfl, fun wy hw => ?_⟩, ?_⟩
   · (have bw := hw.below; go_simp; try (first | (with_reducible rfl) | (with_reducible exact ⟨rfl, rfl⟩)))
   try simp only [Act.put]
   refine wpAnyK_end (by kernel_rfl) ?_
   try simp only [pickOps, List.filterMap_cons, List.filterMap_nil, List.getElem?_toArray, List.getElem?_cons_succ, List.getElem?_cons_zero]
   have HBX := Lib.hid (show Below (w.heap.size + 1) w1 wx from HB2.out.trans (hwx.below.mono hz2))
   clear hwx
   go_wp2_with fail
   refine (HLA.out _).mono ?_
   rintro e w3 ⟨rfl, hb3⟩
   have HB3 := Lib.hid (show Below (w.heap.size + 1) w1 w3 from HBX.out.trans (hb3.mono (by have := HBX.out.size; omega)))
   clear hb3
   obtain ⟨y0, y1⟩ := HXC.out w3 HB3.out
   go_wp2_with fail
   refine NoPanic.normal ?_
   go_wp2_with fail
   go_loopw [6, 29] (fun m i wr => ∃ k : Nat, k ≤ x.an.length - 1 ∧ i = .int .i64 k ∧ m = .int .i64 (minN x.dr t (x.an.take (k + 1))) ∧ Hid (Below (w.heap.size + 1) w1 wr)) (fun _ i _ => x.an.length - 1 - (RowKit.intOf i).toNat)
   case atStart => exact ⟨0, Nat.zero_le _, rfl, by rw [HM1.out], HB3⟩
   case round =>
    obtain ⟨k, hk, rfl, rfl, HB⟩ := hrel
    clear y0 y1
    obtain ⟨y0, y1⟩ := HXC.out wr HB.out
    by_cases hlt : k < x.an.length - 1
    · have hki : (k : Int) < ((x.an.length - 1 : Nat) : Int) := by omega
      have hk1 : k + 1 < x.an.length := by omega
      have had2 := had (by omega)
      subst had2
      have hik := fun W => at_an8 b (o + 2) (x.an.length - 1) (cp - 1) k hlt W
      obtain ⟨v0, v1⟩ := HC.out (k + 1) hk1 wr (HB1.out.trans (HB.out.mono (by omega)))
      have HS := Lib.hid (HST.out (k + 1) (by omega) hk1)
      have HLT := Lib.hid hlt
      have HL2 := Lib.hid (HLB.out _ (HALL.out _ (List.getElem_mem hk1)))
      rw [show o + 2 * (k + 1) = o + 2 + 2 * k by omega] at v0 v1
      generalize x.an[k + 1]'hk1 = a at *
      generalize minN x.dr t (x.an.take (k + 1)) = M at *
      have hwz : w.heap.size + 1 ≤ wr.heap.size := by have := HB.out.size; omega
      obtain ⟨w5, V5, Z5, K5, B5⟩ := lay8 wr [.int .i64 a.a, .int .i64 a.t] 60
      obtain ⟨p0, _⟩ := K5 0 (by simp); obtain ⟨p1, _⟩ := K5 1 (by simp)
      simp only [List.getElem_cons_zero, List.getElem_cons_succ] at p0 p1
      have HB5 := Lib.hid (show Below (w.heap.size + 1) w1 w5 from HB.out.trans (B5.mono hwz))
      obtain ⟨y2, y3⟩ := HXC.out w5 HB5.out
      clear K5 B5 hk1 hlt
      go_wp2_with fail
      refine (HL2.out _).mono ?_
      rintro e w6 ⟨rfl, hb6⟩
      have HB6 := Lib.hid (show Below (w.heap.size + 1) w1 w6 from HB5.out.trans (hb6.mono (by omega)))
      clear hb6 p0 p1 y0 y1 y2 y3 v0 v1 V5
      generalize lastN a x.dr t = L at *
      go_wp2_with fail
      all_goals (
       go_roundw
       case rel => exact ⟨k + 1, HLT.out, by go_num, by rw [HS.out]; congr 1; omega, HB6⟩
       case measure => have h9 := HLT.out; simp [RowKit.intOf]; omega)
    · have hke : k = x.an.length - 1 := by omega
      have HR := Lib.hid (show minN x.dr t (x.an.take (k + 1)) = RV by rw [HF.out.1, hke, List.take_of_length_le (by omega)])
      have hki : ¬ (k : Int) < ((x.an.length - 1 : Nat) : Int) := by omega
      have hki2 : decide ((k : Int) < ((x.an.length - 1 : Nat) : Int)) = false := decide_eq_false hki
      clear hke hlt
      go_wp2_with fail
      go_ret2
      exact ⟨by rw [HF.out.2, ← HR.out]; rfl, HB1.out.trans (HB.out.mono (by omega))⟩
end Go.Proofs.YtamefmojocegkaaDoor

namespace Go.Proofs.YtamefmojocegkaaDoor
open Go Go.Proofs Go.RowKit Go.Lib Go.Maps
def NewC (w w' : World) : Prop := Below w.heap.size w w'
theorem NewC.below {w w' : World} (h : NewC w w') : Below w.heap.size w w' := h
theorem newC0 (w : World) : NewC w { w with drawn := w.drawn + 1 } := Grew.below (grew0 w)
def Rv (v : Value) : Option (DataW Value × List MemPlace) := some (.held v, [])
theorem keyI : Keyed Tryd.prog 3 := int_keyed Tryd.underlying3
theorem wpList_insert_own8 {P : Program} (w : World) {ops : Array Oper} {rest : List Oper} {o : Oper} {a : Act} {Q : Exit → Act → World → Prop}
 (hg : o.guard = none) (m x v : Operand) (t : TypeId) (hop : o.op = Op.insert t m x v)
 (k e : TypeId) (K : Keyed P k) (ht : P.underlying t = some (.map k e)) (b n : Nat) (D : DataW Value)
 (hm : a.eval m = .map (some b)) (hown : w.ownsMap P k Rv b n D) (hn : n < maxLen) (key val : Value) (kl : Lit) (hx : a.eval x = key) (hv : a.eval v = val) (hkey : keyOf P k key = some kl)
 (hK : ∀ w', w'.ownsMap P k Rv b (n + 1) (D.put kl (.held val)) → w.grownBy w' (some b) → wpList P ops Q rest (a.put o.dst undef) w') :
 wpList P ops Q (o :: rest) a w := by
 refine wpList_plain hg fun K' hK' => ?_
 obtain ⟨w', hrun, r1, r2⟩ := hown.update K ht hn hkey (val := val) (d := .held val) (ps := []) rfl
 unfold Oper.wp
 simp [execOp, hop, hm, hx, hv, hrun, Result.andThen]
 exact hK' _ _ (hK w' r1 r2)
theorem ownsMap_below {w w' : World} {P : Program} {k : TypeId} {b n : Nat} {D : DataW Value} (h : w.ownsMap P k Rv b n D) (hb : Below w.heap.size w w') : w'.ownsMap P k Rv b n D :=
 h.kept (row := none) ⟨hb.os, hb.tape, hb.output, hb.size, fun i hi _ => hb.block i hi⟩ (by simp)
def ftD : Nat → (Nat → Value) → DataW Value
 | 0, _ => (DataW.map []).put (.int .i64 1) (.held (.func (.func 73) #[] #[]))
 | k + 1, vs => (ftD k vs).put (.int .i64 (lkT (3 * k))) (.held (vs k))
theorem ftD_congr : ∀ (k : Nat) (vs us : Nat → Value), (∀ j, j < k → vs j = us j) → ftD k vs = ftD k us
 | 0, _, _, _ => rfl
 | k + 1, vs, us, h => by
  unfold ftD
  rw [ftD_congr k vs us (fun j hj => h j (by omega)), h k (by omega)]
def ClosAt (W : World) (v : Value) (ml mn : Int) : Prop := ∃ A B, v = .func (.func 81) #[] #[.pointer (some ⟨A, 0, none⟩), .pointer (some ⟨B, 0, none⟩)] ∧ W.cell? ⟨A, 0, none⟩ = some (.int .i64 ml) ∧ W.cell? ⟨B, 0, none⟩ = some (.int .i64 mn)
theorem ClosAt.below {W W' : World} {v : Value} {ml mn : Int} (h : ClosAt W v ml mn) (b : Below W.heap.size W W') : ClosAt W' v ml mn := by
 obtain ⟨A, B, e, h1, h2⟩ := h
 exact ⟨A, B, e, (b.cell (p := ⟨A, 0, none⟩) (World.block_lt_of_cell? W ⟨A, 0, none⟩ h1)).trans h1, (b.cell (p := ⟨B, 0, none⟩) (World.block_lt_of_cell? W ⟨B, 0, none⟩ h2)).trans h2⟩
theorem ClosAt.map {W W' : World} {v : Value} {ml mn : Int} {b n : Nat} {D : DataW Value} (h : ClosAt W v ml mn) (hm : W.ownsMap Tryd.prog 3 Rv b n D) (g : W.grownBy W' (some b)) : ClosAt W' v ml mn := by
 obtain ⟨A, B, e, h1, h2⟩ := h
 obtain ⟨es, ck, hb, _⟩ := hm
 have ne : ∀ X v, W.cell? ⟨X, 0, none⟩ = some v → X ≠ b := fun X v h e => by subst e; simp [World.cell?, hb] at h
 exact ⟨A, B, e, (World.cell?_of_block (a := ⟨A, 0, none⟩) (g.block A (World.block_lt_of_cell? W ⟨A, 0, none⟩ h1) (fun e => ne A _ h1 (Option.some.inj e)))).trans h1,
  (World.cell?_of_block (a := ⟨B, 0, none⟩) (g.block B (World.block_lt_of_cell? W ⟨B, 0, none⟩ h2) (fun e => ne B _ h2 (Option.some.inj e)))).trans h2⟩
def FtAt (k : Nat) (W : World) (b : Nat) : Prop := ∃ vs : Nat → Value, W.ownsMap Tryd.prog 3 Rv b (k + 1) (ftD k vs) ∧ ∀ j, j < k → ClosAt W (vs j) (lkT (3 * j + 1)) (lkT (3 * j + 2))
theorem FtAt.below {k : Nat} {W W' : World} {b : Nat} (h : FtAt k W b) (hb : Below W.heap.size W W') : FtAt k W' b := by
 obtain ⟨vs, h1, h2⟩ := h
 exact ⟨vs, ownsMap_below h1 hb, fun j hj => (h2 j hj).below hb⟩
theorem FtAt.lt {k : Nat} {W : World} {b : Nat} (h : FtAt k W b) : b < W.heap.size := by
 obtain ⟨vs, h1, _⟩ := h
 exact h1.lt
def FtPost (w : World) (e : Ending) (w' : World) : Prop := ∃ b, e = .returned (.map (some b)) ∧ FtAt 6 w' b ∧ Below w.heap.size w w'
theorem lk_ix (k : Nat) (hk : k < 6) (W : World) : (Instr.index 123 (.agg #[.int .i64 2, .int .i64 0, .int .i64 0, .int .i64 3, .int .i64 99, .int .i64 0, .int .i64 4, .int .i64 99, .int .i64 0, .int .i64 5, .int .i64 99, .int .i64 99, .int .i64 6, .int .i64 99, .int .i64 99, .int .i64 7, .int .i64 9, .int .i64 0]) (.int .i64 (k : Int))).run Tryd.prog W = .ok (.agg #[.int .i64 (lkT (3 * k)), .int .i64 (lkT (3 * k + 1)), .int .i64 (lkT (3 * k + 2))]) W := by
 have h6 : k = 0 ∨ k = 1 ∨ k = 2 ∨ k = 3 ∨ k = 4 ∨ k = 5 := by omega
 rcases h6 with rfl | rfl | rfl | rfl | rfl | rfl <;> rfl
theorem lk_wf (k : Nat) (hk : k < 6) : (Lit.int .i64 (lkT (3 * k))).wf = true := by
 have h6 : k = 0 ∨ k = 1 ∨ k = 2 ∨ k = 3 ∨ k = 4 ∨ k = 5 := by omega
 rcases h6 with rfl | rfl | rfl | rfl | rfl | rfl <;> decide
theorem wpList_val8 {P : Program} {w : World} {ops : Array Oper} {rest : List Oper} {o : Oper} {a : Act} {Q : Exit → Act → World → Prop} (v : Value)
 (hg : o.guard = none) (h : (execOp a.eval o).run P w = .ok (.value v) w) (hK : wpList P ops Q rest (a.put o.dst v) w) : wpList P ops Q (o :: rest) a w := by
 refine wpList_plain hg fun K' hK' => ?_
 unfold Oper.wp
 rw [h]
 exact hK' _ _ hK
theorem lk_load (a : Act) (o : Oper) (ho : o.op = Op.load 123 (Operand.global 0)) (W : World) (h : HasLk W) : (execOp a.eval o).run Tryd.prog W = .ok (.value (.agg #[.int .i64 2, .int .i64 0, .int .i64 0, .int .i64 3, .int .i64 99, .int .i64 0, .int .i64 4, .int .i64 99, .int .i64 0, .int .i64 5, .int .i64 99, .int .i64 99, .int .i64 6, .int .i64 99, .int .i64 99, .int .i64 7, .int .i64 9, .int .i64 0])) W := by
 have y0 := h 0 (by decide)
 have y1 := h 1 (by decide)
 have y2 := h 2 (by decide)
 have y3 := h 3 (by decide)
 have y4 := h 4 (by decide)
 have y5 := h 5 (by decide)
 have y6 := h 6 (by decide)
 have y7 := h 7 (by decide)
 have y8 := h 8 (by decide)
 have y9 := h 9 (by decide)
 have y10 := h 10 (by decide)
 have y11 := h 11 (by decide)
 have y12 := h 12 (by decide)
 have y13 := h 13 (by decide)
 have y14 := h 14 (by decide)
 have y15 := h 15 (by decide)
 have y16 := h 16 (by decide)
 have y17 := h 17 (by decide)
 simp only [lkT, List.getD_cons_succ, List.getD_cons_zero] at y0 y1 y2 y3 y4 y5 y6 y7 y8 y9 y10 y11 y12 y13 y14 y15 y16 y17
 simp [execOp, ho, go_sem, y0, y1, y2, y3, y4, y5, y6, y7, y8, y9, y10, y11, y12, y13, y14, y15, y16, y17]
end Go.Proofs.YtamefmojocegkaaDoor

namespace Go.Proofs.YtamefmojocegkaaDoor
open Go Go.Proofs Go.RowKit Go.Lib Go.Maps
theorem fieldTests_u (w : World) (hR : Rdy w) : Calls Tryd.prog 47 #[] w (FtPost w) := by
 have hmm := @run_makeMap Tryd.prog
 have HR := Lib.hid hR
 have HT := Lib.hid (fun W (h : HasLk W) i (hi : i < 18) => h i hi)
 have HIX := Lib.hid (fun k hk W => lk_ix k hk W)
 clear hR
 go_enter Tryd.func47, Tryd.ntmps47
 go_wp2_with (first | (refine wpList_insert_own8 _ rfl _ _ _ 86 rfl 3 44 keyI Tryd.underlying86 w.heap.size 0 (.map []) rfl (World.ownsMap_made _ _ _ _) (by unfold maxLen; omega) _ _ (.int .i64 1) rfl rfl (keyOf_int_mk Tryd.underlying3 (by decide)) ?_; intro w1 hown1 hgrow1; have HB1 := Lib.hid (show Below w.heap.size w w1 from ((Below.refl _ w).alloc (Nat.le_refl _) _).grown hgrow1 (by simp) (fun k e => by cases e; exact Nat.le_refl _)); have HR1 := Lib.hid (HR.out.below HB1.out)) | (refine wpList_val8 _ rfl (lk_load _ _ rfl _ HR1.out.tab) ?_))
 go_loopw [7] (fun i wr => ∃ k : Nat, k ≤ 6 ∧ i = .int .i64 k ∧ Hid (FtAt k wr w.heap.size) ∧ Hid (Below w.heap.size w wr)) (fun i _ => 6 - (RowKit.intOf i).toNat)
 case atStart => exact ⟨0, Nat.zero_le _, rfl, Lib.hid ⟨fun _ => .nilFunc, hown1, fun j hj => absurd hj (Nat.not_lt_zero _)⟩, HB1⟩
 case round =>
  clear hown1 hgrow1 hmm
  obtain ⟨k, hk, rfl, HF, HB⟩ := hrel
  by_cases hlt : k < 6
  · have hki : (k : Int) < 6 := by omega
    have hik := fun W => HIX.out k hlt W
    have hwf := Lib.hid (lk_wf k hlt)
    have HLT := Lib.hid hlt
    obtain ⟨w2, V2, Z2, K2, B2⟩ := lay8 wr [.int .i64 0, .int .i64 0, .int .i64 0] 122
    obtain ⟨vs, hm, hcl⟩ := HF.out
    have HB' := HB.out
    have hsz := HB'.size
    have hmlt := hm.lt
    obtain ⟨n1, hn1⟩ : ∃ n, lkT (3 * k) = n := ⟨_, rfl⟩
    obtain ⟨n2, hn2⟩ : ∃ n, lkT (3 * k + 1) = n := ⟨_, rfl⟩
    obtain ⟨n3, hn3⟩ : ∃ n, lkT (3 * k + 2) = n := ⟨_, rfl⟩
    rw [hn1, hn2, hn3] at hik
    rw [hn1] at hwf
    obtain ⟨w3, V3, K3, B3⟩ : ∃ w3, ((w2.setCell ⟨wr.heap.size, 0, none⟩ (.int .i64 n1)).setCell ⟨wr.heap.size, 1, none⟩ (.int .i64 n2)).setCell ⟨wr.heap.size, 2, none⟩ (.int .i64 n3) = w3 ∧ CellsAt w3 wr.heap.size [.int .i64 n1, .int .i64 n2, .int .i64 n3] ∧ Below wr.heap.size wr w3 :=
     ⟨_, rfl, ((K2.put 0 _).put 1 _).put 2 _, ((B2.setCell (Nat.le_refl _) _).setCell (Nat.le_refl _) _).setCell (Nat.le_refl _) _⟩
    obtain ⟨g0, g0'⟩ := K2 0 (by simp); obtain ⟨g1, g1'⟩ := K2 1 (by simp); obtain ⟨g2, g2'⟩ := K2 2 (by simp)
    simp only [List.getElem_cons_zero, List.getElem_cons_succ] at g0 g1 g2
    have HM3 := Lib.hid (ownsMap_below hm B3)
    have HCL3 := Lib.hid (fun j hj => (hcl j hj).below B3)
    have HB3 := Lib.hid (HB'.trans (B3.mono hsz))
    have HYY := Lib.hid (show ∀ W, Below w3.heap.size w3 W → W.cell? ⟨wr.heap.size, 0, none⟩ = some (.int .i64 n1) ∧ W.cell? ⟨wr.heap.size, 1, none⟩ = some (.int .i64 n2) ∧ W.cell? ⟨wr.heap.size, 2, none⟩ = some (.int .i64 n3) from fun W b => ⟨(K3.below b 0 (by simp)).1, (K3.below b 1 (by simp)).1, (K3.below b 2 (by simp)).1⟩)
    clear hm hcl K2 K3 B2 B3 HB' HF HB
    go_upto_region 5 with fail
    clear V2 V3 g0 g0' g1 g1' g2 g2' 
    refine wp_region_noPanic ?_
    refine wp_region_Kx (C := NewC w3) [8] 8 #[false, false, false, false, false, false, false, false, false] (by kernel_rfl) (by kernel_rfl) (by kernel_rfl) (newC0 _) ?_
    intro wx hwx
    refine wpAnyK_ex (i := 0) rfl (by kernel_rfl) (listed' := #[true, false, false, false, false, false, false, false, false]) rfl (fun _ _ _ _ _ h => h) hwx ?_
    apply Exists.intro
    refine ⟨⟨by rfl, fun wy hw => ?_⟩, ?_⟩
    · (have bw := hw.below; obtain ⟨f0, f1, f2⟩ := HYY.out _ bw; go_simp; try (first | (with_reducible rfl) | (with_reducible exact ⟨rfl, rfl⟩)))
    try simp only [Act.put]
    refine wpAnyK_ex (i := 1) rfl (by kernel_rfl) (listed' := #[true, true, false, false, false, false, false, false, false]) rfl (fun _ _ _ _ _ h => h) hwx ?_
    apply Exists.intro
    refine ⟨⟨by rfl, fun wy hw => ?_⟩, ?_⟩
    · (have bw := hw.below; obtain ⟨f0, f1, f2⟩ := HYY.out _ bw; go_simp; try (first | (with_reducible rfl) | (with_reducible exact ⟨rfl, rfl⟩)))
    try simp only [Act.put]
    refine wpAnyK_ex (i := 2) rfl (by kernel_rfl) (listed' := #[true, true, true, false, false, false, false, false, false]) rfl (fun _ _ _ _ _ h => h) hwx ?_
    apply Exists.intro
    refine ⟨⟨by rfl, fun wy hw => ?_⟩, ?_⟩
    · (have bw := hw.below; obtain ⟨f0, f1, f2⟩ := HYY.out _ bw; go_simp; try (first | (with_reducible rfl) | (with_reducible exact ⟨rfl, rfl⟩)))
    try simp only [Act.put]
    refine wpAnyK_ex (i := 3) rfl (by kernel_rfl) (listed' := #[true, true, true, true, false, false, false, false, false]) rfl (fun _ _ _ _ _ h => h) hwx ?_
    apply Exists.intro
    refine ⟨⟨by rfl, fun wy hw => ?_⟩, ?_⟩
    · (have bw := hw.below; obtain ⟨f0, f1, f2⟩ := HYY.out _ bw; go_simp; try (first | (with_reducible rfl) | (with_reducible exact ⟨rfl, rfl⟩)))
    try simp only [Act.put]
    refine wpAnyK_ex (i := 4) rfl (by kernel_rfl) (listed' := #[true, true, true, true, true, false, false, false, false]) rfl (fun _ _ _ _ _ h => h) hwx ?_
    apply Exists.intro
    refine ⟨⟨by rfl, fun wy hw => ?_⟩, ?_⟩
    · (have bw := hw.below; obtain ⟨f0, f1, f2⟩ := HYY.out _ bw; go_simp; try (first | (with_reducible rfl) | (with_reducible exact ⟨rfl, rfl⟩)))
    try simp only [Act.put]
    refine wpAnyK_ex (i := 5) rfl (by kernel_rfl) (listed' := #[true, true, true, true, true, true, false, false, false]) rfl (fun _ _ _ _ _ h => h) hwx ?_
    apply Exists.intro
    refine ⟨⟨by rfl, fun wy hw => ?_⟩, ?_⟩
    · (have bw := hw.below; obtain ⟨f0, f1, f2⟩ := HYY.out _ bw; go_simp; try (first | (with_reducible rfl) | (with_reducible exact ⟨rfl, rfl⟩)))
    try simp only [Act.put]
    refine wpAnyK_ex (i := 6) rfl (by kernel_rfl) (listed' := #[true, true, true, true, true, true, true, false, false]) rfl (fun _ _ _ _ _ h => h) hwx ?_
    apply Exists.intro
    refine ⟨⟨by rfl, fun wy hw => ?_⟩, ?_⟩
    · (have bw := hw.below; obtain ⟨f0, f1, f2⟩ := HYY.out _ bw; go_simp; try (first | (with_reducible rfl) | (with_reducible exact ⟨rfl, rfl⟩)))
    try simp only [Act.put]
    have HX := Lib.hid hwx.below
    refine wpAnyK_fork1 7 (by kernel_rfl) ?_
    refine wpOpK_step rfl (by kernel_rfl) (listed' := #[true, true, true, true, true, true, true, true, false]) rfl (by rfl) (fun K hK => ?_)
    go_simp
    refine (linked_u _ _ _).mono ?_
    rintro e w9 ⟨rfl, hw9⟩
    have H9 := Lib.hid (show Below w3.heap.size w3 w9 from by rw [← hw9]; exact (HX.out.alloc HX.out.size _).alloc (Nat.le_trans HX.out.size (by simp)) _)
    have HC9 := Lib.hid (show ClosAt w9 (.func (.func 81) #[] #[.pointer (some ⟨wx.heap.size, 0, none⟩), .pointer (some ⟨wx.heap.size + 1, 0, none⟩)]) n2 n3 from by
     obtain ⟨u1, U1, X1, Y1, D1⟩ := lay8 wx [.int .i64 n2] 3
     obtain ⟨u2, U2, X2, Y2, D2⟩ := lay8 u1 [.int .i64 n3] 3
     have e : w9 = u2 := by rw [← hw9, ← U2, ← U1]
     rw [e]
     rw [X1] at Y2 D2
     exact ⟨_, _, rfl, ((Y1.up D2 (by omega)) 0 (by simp)).1, (Y2 0 (by simp)).1⟩)
    refine hK _ _ H9.out ?_
    clear hK K hw9
    try simp only [Act.put]
    refine wpAnyK_end (by kernel_rfl) ?_
    try simp only [pickOps, List.filterMap_cons, List.filterMap_nil, List.getElem?_toArray, List.getElem?_cons_succ, List.getElem?_cons_zero]
    generalize (Value.func (.func 81) #[] #[.pointer (some ⟨wx.heap.size, 0, none⟩), .pointer (some ⟨wx.heap.size + 1, 0, none⟩)]) = cv at *
    have hm9 := ownsMap_below HM3.out H9.out
    refine wpList_mapUpdate_own _ rfl _ _ _ 86 rfl 3 44 keyI Tryd.underlying86 Rv w.heap.size (k + 1) _ rfl hm9 (by unfold maxLen; omega) _ _ (.int .i64 n1) rfl rfl (keyOf_int_mk Tryd.underlying3 hwf.out) (.held cv) [] rfl ?_
    intro w8 hown8 hgrow8
    go_wp2_with fail
    refine NoPanic.normal ?_
    have HF8 := Lib.hid (show FtAt (k + 1) w8 w.heap.size from by
     refine ⟨fun j => if j = k then cv else vs j, ?_, fun j hj => ?_⟩
     · show w8.ownsMap _ _ _ _ _ ((ftD k fun j => if j = k then cv else vs j).put (.int .i64 (lkT (3 * k))) (.held (if k = k then cv else vs k)))
       rw [ftD_congr k _ vs (fun j hj => if_neg (by omega)), if_pos rfl, hn1]
       exact hown8
     · by_cases e : j = k
       · subst e
         dsimp only
         rw [if_pos rfl, hn2, hn3]
         exact HC9.out.map hm9 hgrow8
       · dsimp only
         rw [if_neg e]
         exact ((HCL3.out j (by omega)).below H9.out).map hm9 hgrow8)
    have HB8 := Lib.hid (show Below w.heap.size w w8 from (HB3.out.trans (H9.out.mono HB3.out.size)).grown hgrow8 (Nat.le_trans HB3.out.size H9.out.size) (fun k e => by cases e; exact Nat.le_refl _))
    clear hown8 hgrow8 hm9
    go_wp2_with fail
    go_roundw
    case rel => exact ⟨k + 1, HLT.out, by go_num, HF8, HB8⟩
    case measure => have := HLT.out; simp [RowKit.intOf]; omega
  · obtain rfl : k = 6 := by omega
    go_wp2_with fail
    go_ret
    exact ⟨_, rfl, HF.out, HB.out⟩
end Go.Proofs.YtamefmojocegkaaDoor

namespace Go.Proofs.YtamefmojocegkaaDoor
open Go Go.Proofs Go.RowKit Go.Lib Go.Maps
def TestAt (W : World) (x : Ev) (v : Value) : Prop := (v = .nilFunc ∧ tstB x = false) ∨ ∃ F lb, v = .func (.func F) #[] lb ∧ (∀ args W, (callFunc F args).run Tryd.prog W = .ok (.enter F args) W) ∧
 ∀ W', Below W.heap.size W W' → Calls Tryd.prog F (#[x.val] ++ lb) W' fun e w' => e = .returned (.bool (tstB x)) ∧ Below W'.heap.size W' w'
theorem held_inj {v u : Value} {ps : List MemPlace} {z : DataW Value} (h : Rv v = some (z, ps)) (hz : z = .held u) : v = u := by
 unfold Rv at h
 injection h with h
 injection h with h1 h2
 rw [hz] at h1
 injection h1
theorem ft_at (vs : Nat → Value) (kd : Int) : (ftD 6 vs).atKey (.int .i64 kd) (.held .nilFunc) =
 .held (if kd = 1 then .func (.func 73) #[] #[] else if kd = 2 then vs 0 else if kd = 3 then vs 1 else if kd = 4 then vs 2 else if kd = 5 then vs 3 else if kd = 6 then vs 4 else if kd = 7 then vs 5 else .nilFunc) := by
 have hD : ftD 6 vs = .map [(.int .i64 1, .held (.func (.func 73) #[] #[])), (.int .i64 2, .held (vs 0)), (.int .i64 3, .held (vs 1)), (.int .i64 4, .held (vs 2)), (.int .i64 5, .held (vs 3)), (.int .i64 6, .held (vs 4)), (.int .i64 7, .held (vs 5))] := by rfl
 rw [hD]
 by_cases h1 : kd = 1
 · subst h1; rfl
 by_cases h2 : kd = 2
 · subst h2; rfl
 by_cases h3 : kd = 3
 · subst h3; rfl
 by_cases h4 : kd = 4
 · subst h4; rfl
 by_cases h5 : kd = 5
 · subst h5; rfl
 by_cases h6 : kd = 6
 · subst h6; rfl
 by_cases h7 : kd = 7
 · subst h7; rfl
 rw [if_neg h1, if_neg h2, if_neg h3, if_neg h4, if_neg h5, if_neg h6, if_neg h7]
 have n1 := Ne.symm h1; have n2 := Ne.symm h2; have n3 := Ne.symm h3; have n4 := Ne.symm h4; have n5 := Ne.symm h5; have n6 := Ne.symm h6; have n7 := Ne.symm h7
 simp [DataW.atKey, Lit.sameKey, n1, n2, n3, n4, n5, n6, n7]
theorem ft_look {W : World} {b : Nat} (h : FtAt 6 W b) (x : Ev) (hk : (Lit.int .i64 x.kd).wf = true) : ∃ v, (Instr.lookup 86 (.map (some b)) (.int .i64 x.kd) false).run Tryd.prog W = .ok v W ∧ TestAt W x v := by
 obtain ⟨vs, hm, hc⟩ := h
 obtain ⟨v, ps, hrun, hv⟩ := hm.lookup (e := 44) keyI Tryd.underlying86 (z := .nilFunc) (by kernel_rfl) (zd := .held .nilFunc) (zp := []) rfl (keyOf_int_mk Tryd.underlying3 hk)
 have e := held_inj hv (ft_at vs x.kd)
 refine ⟨v, hrun, ?_⟩
 subst e
 have lk : ∀ j, j < 6 → ∀ ml mn, lkT (3 * j + 1) = ml → lkT (3 * j + 2) = mn → tstB x = linkB ml mn x → TestAt W x (vs j) := fun j hj ml mn e1 e2 e3 => by
  obtain ⟨A, B, ev, hA, hB⟩ := hc j hj
  rw [e1] at hA
  rw [e2] at hB
  refine .inr ⟨_, _, ev, by intro args W; rfl, fun W' hb => ?_⟩
  rw [e3]
  exact linked1_u x ml mn A B W' ((hb.cell (p := ⟨A, 0, none⟩) (World.block_lt_of_cell? W ⟨A, 0, none⟩ hA)).trans hA) ((hb.cell (p := ⟨B, 0, none⟩) (World.block_lt_of_cell? W ⟨B, 0, none⟩ hB)).trans hB)
 unfold tstB at lk
 by_cases h1 : x.kd = 1
 · rw [if_pos h1]
   refine .inr ⟨_, _, rfl, by intro args W; rfl, fun W' hb => ?_⟩
   have := isBegin_u x W'
   unfold tstB
   rw [if_pos h1]
   exact this
 rw [if_neg h1]
 by_cases h2 : x.kd = 2
 · rw [if_pos h2]; exact lk 0 (by decide) 0 0 rfl rfl (by rw [if_neg h1, if_pos h2])
 rw [if_neg h2]
 by_cases h3 : x.kd = 3
 · rw [if_pos h3]; exact lk 1 (by decide) 99 0 rfl rfl (by rw [if_neg h1, if_neg h2, if_pos h3])
 rw [if_neg h3]
 by_cases h4 : x.kd = 4
 · rw [if_pos h4]; exact lk 2 (by decide) 99 0 rfl rfl (by rw [if_neg h1, if_neg h2, if_neg h3, if_pos h4])
 rw [if_neg h4]
 by_cases h5 : x.kd = 5
 · rw [if_pos h5]; exact lk 3 (by decide) 99 99 rfl rfl (by rw [if_neg h1, if_neg h2, if_neg h3, if_neg h4, if_pos h5])
 rw [if_neg h5]
 by_cases h6 : x.kd = 6
 · rw [if_pos h6]; exact lk 4 (by decide) 99 99 rfl rfl (by rw [if_neg h1, if_neg h2, if_neg h3, if_neg h4, if_neg h5, if_pos h6])
 rw [if_neg h6]
 by_cases h7 : x.kd = 7
 · rw [if_pos h7]; exact lk 5 (by decide) 9 0 rfl rfl (by rw [if_neg h1, if_neg h2, if_neg h3, if_neg h4, if_neg h5, if_neg h6, if_pos h7])
 rw [if_neg h7]
 refine .inl ⟨rfl, ?_⟩
 unfold tstB
 rw [if_neg h1, if_neg h2, if_neg h3, if_neg h4, if_neg h5, if_neg h6, if_neg h7]
theorem isEvent_u (x : Ev) (hk : (Lit.int .i64 x.kd).wf = true) (b : Nat) (w : World) (hF : FtAt 6 w b) : Calls Tryd.prog 48 #[x.val, .map (some b)] w fun e w' => e = .returned (.bool (evB x)) ∧ Below w.heap.size w w' := by
 obtain ⟨R, hR⟩ : ∃ R, evB x = R := ⟨_, rfl⟩
 rw [hR]
 obtain ⟨w1, V1, Z1, K1, B1⟩ := lay8 w x.cells 46
 obtain ⟨tv, hl, ht⟩ := ft_look (hF.below B1) x hk
 have HT := Lib.hid ht
 have HZ := Lib.hid B1
 have HR := Lib.hid (show R = (tstB x && basB x) by rw [← hR]; exact evB_tst x)
 have HXV := Lib.hid (show ∀ t : Bool, t = tstB x → t = tstB x from fun _ h => h)
 have hXV := Lib.hid (Ev.val_mk x)
 obtain ⟨ag, sq, tm, kd, tr, sp, lk, gn, op, vr, pe, bt⟩ := x
 have V1 := (show w.alloc (.cells #[.int .i64 ag, .int .i64 sq, .int .i64 tm, .int .i64 kd, .int .i64 tr, .int .i64 sp, .int .i64 lk, .int .i64 gn, .int .i64 op, .int .i64 vr, .int .i64 pe, .int .i64 bt] 46) = w1 from V1)
 have K2 := (show CellsAt w1 w.heap.size [.int .i64 ag, .int .i64 sq, .int .i64 tm, .int .i64 kd, .int .i64 tr, .int .i64 sp, .int .i64 lk, .int .i64 gn, .int .i64 op, .int .i64 vr, .int .i64 pe, .int .i64 bt] from K1)
 dsimp only at hl
 unfold basB at HR
 dsimp only at HR
 have y0 := (K2 0 (by simp)).1
 have y1 := (K2 1 (by simp)).1
 have y2 := (K2 2 (by simp)).1
 have y3 := (K2 3 (by simp)).1
 have y4 := (K2 4 (by simp)).1
 have y5 := (K2 5 (by simp)).1
 have y6 := (K2 6 (by simp)).1
 have y7 := (K2 7 (by simp)).1
 have y8 := (K2 8 (by simp)).1
 have y9 := (K2 9 (by simp)).1
 have y10 := (K2 10 (by simp)).1
 have y11 := (K2 11 (by simp)).1
 simp only [List.getElem_cons_zero, List.getElem_cons_succ] at y0 y1 y2 y3 y4 y5 y6 y7 y8 y9 y10 y11
 have HKB := Lib.hid (show ∀ W, Below w1.heap.size w1 W → EvBox W w.heap.size ⟨ag, sq, tm, kd, tr, sp, lk, gn, op, vr, pe, bt⟩ from fun W b => CellsAt.ev (CellsAt.below K1 b))
 have C1 := Lib.hid (fun W => isIn_u ag 0 5 W)
 generalize inB ag 0 5 = b1 at *
 have C2 := Lib.hid (fun W => isIn_u sq 0 999 W)
 generalize inB sq 0 999 = b2 at *
 have C3 := Lib.hid (fun W => isIn_u tm 0 1000000 W)
 generalize inB tm 0 1000000 = b3 at *
 have C4 := Lib.hid (fun W => isIn_u tr 0 999 W)
 generalize inB tr 0 999 = b4 at *
 have C5 := Lib.hid (fun W => isIn_u sp 0 9 W)
 generalize inB sp 0 9 = b5 at *
 have C6 := Lib.hid (fun W => isIn_u bt 0 1000 W)
 generalize inB bt 0 1000 = b6 at *
 clear hR K1 K2 B1 ht hF HXV hk
 obtain ⟨T, hT⟩ : ∃ T, tstB ⟨ag, sq, tm, kd, tr, sp, lk, gn, op, vr, pe, bt⟩ = T := ⟨_, rfl⟩
 unfold TestAt at HT
 rw [hT] at HR HT
 clear hT
 rw [hXV.out] at HT ⊢
 rcases HT.out with ⟨rfl, hf⟩ | ⟨F, lb, rfl, eg, hc⟩
 · clear HT
   have HF := Lib.hid hf
   have hn0 : ∀ W, (binOp BinOp.neq 44 Value.nilFunc Value.nilFunc).run Tryd.prog W = .ok (.bool false) W := fun W => by rfl
   clear hf
   go_enter Tryd.func48, Tryd.ntmps48
   go_wp2_with fail
   go_ret
   exact ⟨by rw [HR.out, HF.out]; rfl, HZ.out⟩
 · clear HT
   have HC := Lib.hid hc
   have hn1 : ∀ W, (binOp BinOp.neq 44 (Value.func (.func F) #[] lb) Value.nilFunc).run Tryd.prog W = .ok (.bool true) W := fun W => by rfl
   clear hc
   cases T with
   | false =>
    go_enter Tryd.func48, Tryd.ntmps48
    go_wp2_with (first | ((with_reducible refine (HC.out _ (Below.refl _ _)).mono ?_); rintro e z ⟨rfl, hz⟩; replace HZ := Lib.hid (HZ.out.trans (hz.mono HZ.out.size)); clear y0 y1 y2 y3 y4 y5 y6 y7 y8 y9 y10 y11; obtain ⟨y0, y1, y2, y3, y4, y5, y6, y7, y8, y9, y10, y11⟩ := HKB.out _ hz; clear hz) | (go_at_call 40; (first | (with_reducible refine (C1.out _).mono ?_) | (with_reducible refine (C2.out _).mono ?_) | (with_reducible refine (C3.out _).mono ?_) | (with_reducible refine (C4.out _).mono ?_) | (with_reducible refine (C5.out _).mono ?_) | (with_reducible refine (C6.out _).mono ?_)); rintro e z ⟨rfl, rfl⟩))
    go_ret
    exact ⟨by rw [HR.out]; simp, HZ.out⟩
   | true =>
    cases b1 with
    | false =>
     go_enter Tryd.func48, Tryd.ntmps48
     go_wp2_with (first | ((with_reducible refine (HC.out _ (Below.refl _ _)).mono ?_); rintro e z ⟨rfl, hz⟩; replace HZ := Lib.hid (HZ.out.trans (hz.mono HZ.out.size)); clear y0 y1 y2 y3 y4 y5 y6 y7 y8 y9 y10 y11; obtain ⟨y0, y1, y2, y3, y4, y5, y6, y7, y8, y9, y10, y11⟩ := HKB.out _ hz; clear hz) | (go_at_call 40; (first | (with_reducible refine (C1.out _).mono ?_) | (with_reducible refine (C2.out _).mono ?_) | (with_reducible refine (C3.out _).mono ?_) | (with_reducible refine (C4.out _).mono ?_) | (with_reducible refine (C5.out _).mono ?_) | (with_reducible refine (C6.out _).mono ?_)); rintro e z ⟨rfl, rfl⟩))
     go_ret
     exact ⟨by rw [HR.out]; simp, HZ.out⟩
    | true =>
     cases b2 with
     | false =>
      go_enter Tryd.func48, Tryd.ntmps48
      go_wp2_with (first | ((with_reducible refine (HC.out _ (Below.refl _ _)).mono ?_); rintro e z ⟨rfl, hz⟩; replace HZ := Lib.hid (HZ.out.trans (hz.mono HZ.out.size)); clear y0 y1 y2 y3 y4 y5 y6 y7 y8 y9 y10 y11; obtain ⟨y0, y1, y2, y3, y4, y5, y6, y7, y8, y9, y10, y11⟩ := HKB.out _ hz; clear hz) | (go_at_call 40; (first | (with_reducible refine (C1.out _).mono ?_) | (with_reducible refine (C2.out _).mono ?_) | (with_reducible refine (C3.out _).mono ?_) | (with_reducible refine (C4.out _).mono ?_) | (with_reducible refine (C5.out _).mono ?_) | (with_reducible refine (C6.out _).mono ?_)); rintro e z ⟨rfl, rfl⟩))
      go_ret
      exact ⟨by rw [HR.out]; simp, HZ.out⟩
     | true =>
      cases b3 with
      | false =>
       go_enter Tryd.func48, Tryd.ntmps48
       go_wp2_with (first | ((with_reducible refine (HC.out _ (Below.refl _ _)).mono ?_); rintro e z ⟨rfl, hz⟩; replace HZ := Lib.hid (HZ.out.trans (hz.mono HZ.out.size)); clear y0 y1 y2 y3 y4 y5 y6 y7 y8 y9 y10 y11; obtain ⟨y0, y1, y2, y3, y4, y5, y6, y7, y8, y9, y10, y11⟩ := HKB.out _ hz; clear hz) | (go_at_call 40; (first | (with_reducible refine (C1.out _).mono ?_) | (with_reducible refine (C2.out _).mono ?_) | (with_reducible refine (C3.out _).mono ?_) | (with_reducible refine (C4.out _).mono ?_) | (with_reducible refine (C5.out _).mono ?_) | (with_reducible refine (C6.out _).mono ?_)); rintro e z ⟨rfl, rfl⟩))
       go_ret
       exact ⟨by rw [HR.out]; simp, HZ.out⟩
      | true =>
       cases b4 with
       | false =>
        go_enter Tryd.func48, Tryd.ntmps48
        go_wp2_with (first | ((with_reducible refine (HC.out _ (Below.refl _ _)).mono ?_); rintro e z ⟨rfl, hz⟩; replace HZ := Lib.hid (HZ.out.trans (hz.mono HZ.out.size)); clear y0 y1 y2 y3 y4 y5 y6 y7 y8 y9 y10 y11; obtain ⟨y0, y1, y2, y3, y4, y5, y6, y7, y8, y9, y10, y11⟩ := HKB.out _ hz; clear hz) | (go_at_call 40; (first | (with_reducible refine (C1.out _).mono ?_) | (with_reducible refine (C2.out _).mono ?_) | (with_reducible refine (C3.out _).mono ?_) | (with_reducible refine (C4.out _).mono ?_) | (with_reducible refine (C5.out _).mono ?_) | (with_reducible refine (C6.out _).mono ?_)); rintro e z ⟨rfl, rfl⟩))
        go_ret
        exact ⟨by rw [HR.out]; simp, HZ.out⟩
       | true =>
        cases b5 with
        | false =>
         go_enter Tryd.func48, Tryd.ntmps48
         go_wp2_with (first | ((with_reducible refine (HC.out _ (Below.refl _ _)).mono ?_); rintro e z ⟨rfl, hz⟩; replace HZ := Lib.hid (HZ.out.trans (hz.mono HZ.out.size)); clear y0 y1 y2 y3 y4 y5 y6 y7 y8 y9 y10 y11; obtain ⟨y0, y1, y2, y3, y4, y5, y6, y7, y8, y9, y10, y11⟩ := HKB.out _ hz; clear hz) | (go_at_call 40; (first | (with_reducible refine (C1.out _).mono ?_) | (with_reducible refine (C2.out _).mono ?_) | (with_reducible refine (C3.out _).mono ?_) | (with_reducible refine (C4.out _).mono ?_) | (with_reducible refine (C5.out _).mono ?_) | (with_reducible refine (C6.out _).mono ?_)); rintro e z ⟨rfl, rfl⟩))
         go_ret
         exact ⟨by rw [HR.out]; simp, HZ.out⟩
        | true =>
         cases b6 with
         | false =>
          go_enter Tryd.func48, Tryd.ntmps48
          go_wp2_with (first | ((with_reducible refine (HC.out _ (Below.refl _ _)).mono ?_); rintro e z ⟨rfl, hz⟩; replace HZ := Lib.hid (HZ.out.trans (hz.mono HZ.out.size)); clear y0 y1 y2 y3 y4 y5 y6 y7 y8 y9 y10 y11; obtain ⟨y0, y1, y2, y3, y4, y5, y6, y7, y8, y9, y10, y11⟩ := HKB.out _ hz; clear hz) | (go_at_call 40; (first | (with_reducible refine (C1.out _).mono ?_) | (with_reducible refine (C2.out _).mono ?_) | (with_reducible refine (C3.out _).mono ?_) | (with_reducible refine (C4.out _).mono ?_) | (with_reducible refine (C5.out _).mono ?_) | (with_reducible refine (C6.out _).mono ?_)); rintro e z ⟨rfl, rfl⟩))
          go_ret
          exact ⟨by rw [HR.out]; simp, HZ.out⟩
         | true =>
          go_enter Tryd.func48, Tryd.ntmps48
          go_wp2_with (first | ((with_reducible refine (HC.out _ (Below.refl _ _)).mono ?_); rintro e z ⟨rfl, hz⟩; replace HZ := Lib.hid (HZ.out.trans (hz.mono HZ.out.size)); clear y0 y1 y2 y3 y4 y5 y6 y7 y8 y9 y10 y11; obtain ⟨y0, y1, y2, y3, y4, y5, y6, y7, y8, y9, y10, y11⟩ := HKB.out _ hz; clear hz) | (go_at_call 40; (first | (with_reducible refine (C1.out _).mono ?_) | (with_reducible refine (C2.out _).mono ?_) | (with_reducible refine (C3.out _).mono ?_) | (with_reducible refine (C4.out _).mono ?_) | (with_reducible refine (C5.out _).mono ?_) | (with_reducible refine (C6.out _).mono ?_)); rintro e z ⟨rfl, rfl⟩))
          go_ret
          exact ⟨by rw [HR.out]; rfl, HZ.out⟩
end Go.Proofs.YtamefmojocegkaaDoor

namespace Go.Proofs.YtamefmojocegkaaDoor
open Go Go.Proofs Go.RowKit Go.Lib Go.Maps
def Ev.wf (x : Ev) : Prop := (Lit.int .i64 x.kd).wf = true
def evsW (l : List Ev) : Prop := ∀ x ∈ l, x.wf
theorem event_u (x : Ev) (hk : x.wf) (w : World) (hR : Rdy w) : Calls Tryd.prog 23 #[x.val] w fun e w' => e = .returned (.bool (evB x)) ∧ Below w.heap.size w w' := by
 obtain ⟨w1, V1, Z1, K1, B1⟩ := lay8 w x.cells 46
 have HZ := Lib.hid B1
 have HR1 := Lib.hid (hR.below B1)
 have HKB := Lib.hid (show ∀ W, Below w1.heap.size w1 W → EvBox W w.heap.size x from fun W b => CellsAt.ev (CellsAt.below K1 b))
 have CE := Lib.hid (fun b W h => isEvent_u x hk b W h)
 generalize evB x = R at *
 have hz := B1.size
 clear hR K1 B1 hk
 have hXV := Lib.hid (Ev.val_mk x)
 rw [hXV.out] at CE ⊢
 have V1 := (show w.alloc (.cells #[.int .i64 x.ag, .int .i64 x.sq, .int .i64 x.tm, .int .i64 x.kd, .int .i64 x.tr, .int .i64 x.sp, .int .i64 x.lk, .int .i64 x.gn, .int .i64 x.op, .int .i64 x.vr, .int .i64 x.pe, .int .i64 x.bt] 46) = w1 from V1)
 go_enter Tryd.func23, Tryd.ntmps23
 go_upto_region 1 with fail
 clear V1
 refine wp_region_noPanic ?_
 refine wp_region_Kx (C := NewC w1) [3] 3 #[false, false, false, false] (by kernel_rfl) (by kernel_rfl) (by kernel_rfl) (newC0 _) ?_
 intro wx hwx
 refine wpAnyK_ex (i := 0) rfl (by kernel_rfl) (listed' := #[true, false, false, false]) rfl (fun _ _ _ _ _ h => h) hwx ?_
 apply Exists.intro
 refine ⟨⟨by rfl, fun wy hw => ?_⟩, ?_⟩
 · (have bw := hw.below; obtain ⟨e0, e1, e2, e3, e4, e5, e6, e7, e8, e9, e10, e11⟩ := HKB.out _ bw; go_simp; try (first | (with_reducible rfl) | (with_reducible exact ⟨rfl, rfl⟩)))
 try simp only [Act.put]
 have HX0 := Lib.hid hwx.below
 refine wpAnyK_fork1 1 (by kernel_rfl) ?_
 refine wpOpK_step rfl (by kernel_rfl) (listed' := #[true, true, false, false]) rfl (by rfl) (fun K hK => ?_)
 go_simp
 refine (fieldTests_u _ (HR1.out.below HX0.out)).mono ?_
 rintro e x1 ⟨b, rfl, hF, hb⟩
 have HX1 := Lib.hid (HX0.out.trans (hb.mono HX0.out.size))
 refine hK _ _ HX1.out ?_
 clear hK K
 try simp only [Act.put]
 clear hb
 refine wpAnyK_fork1 2 (by kernel_rfl) ?_
 refine wpOpK_step rfl (by kernel_rfl) (listed' := #[true, true, true, false]) rfl (by rfl) (fun K hK => ?_)
 go_simp
 refine (CE.out b _ hF).mono ?_
 rintro e x2 ⟨rfl, hb⟩
 have HX2 := Lib.hid (HX1.out.trans (hb.mono HX1.out.size))
 refine hK _ _ HX2.out ?_
 clear hK K
 try simp only [Act.put]
 clear hb
 refine wpAnyK_end (by kernel_rfl) ?_
 try simp only [pickOps, List.filterMap_cons, List.filterMap_nil, List.getElem?_toArray, List.getElem?_cons_succ, List.getElem?_cons_zero]
 go_wp2_with fail
 refine NoPanic.normal ?_
 go_wp2_with fail
 go_ret
 exact ⟨rfl, HZ.out.trans (HX2.out.mono hz)⟩
theorem folw_step {f : Fl} {l : List Ev} {k : Nat} (hk : 0 < k) (hs : ∀ j, j < k → StepOk f l j) (he : evB (evD l k) = true) (ha : (evD l k).ag < (f.dr.length : Int)) (ho : (evD l k).op < (f.sv.length : Int)) :
 folwB (evD l (k - 1)) (evD l k) = true ↔ StepOk f l k := by
 have hp := (hs (k - 1) (by omega)).2.2.1
 unfold folwB StepOk
 simp only [Bool.and_eq_true, Bool.or_eq_true, beq_iff_eq, decide_eq_true_eq]
 constructor
 · rintro ⟨h1, h2⟩
   exact ⟨he, ha, by rw [← h1, hp], fun h => by omega, fun _ => ⟨by omega, fun h => by omega⟩⟩
 · rintro ⟨_, _, h3, _, h5⟩
   obtain ⟨h6, h7⟩ := h5 hk
   refine ⟨by rw [hp, h3], ?_⟩
   by_cases e : (evD l (k - 1)).ag = (evD l k).ag
   · exact .inr ⟨e, by have := fun h => h7 ⟨e.symm, h⟩; omega⟩
   · exact .inl (by omega)
theorem step_zero {f : Fl} {l : List Ev} (he : evB (evD l 0) = true) (ha : (evD l 0).ag < (f.dr.length : Int)) (ho : (evD l 0).op < (f.sv.length : Int)) : StepOk f l 0 :=
 ⟨he, ha, rfl, fun h => by omega, fun h => absurd h (Nat.lt_irrefl _)⟩
theorem op_of {f : Fl} {x : Ev} (hf : flB f = true) (he : evB x = true) (h : ¬ (x.kd = 1 ∧ (f.sv.length : Int) ≤ x.op)) : x.op < (f.sv.length : Int) := by
 obtain ⟨_, _, _, _, _, _, hs, _⟩ := flB_of hf
 by_cases h1 : x.kd = 1
 · have := fun h2 => h ⟨h1, h2⟩; omega
 · rw [evB_tst] at he
   have ht := (Bool.and_eq_true_iff.1 he).1
   have : x.op = 0 := by
    unfold tstB linkB at ht
    rw [if_neg h1] at ht
    repeat' (split at ht)
    all_goals first | (simp at ht; omega) | (cases ht)
   omega
theorem events_u (v : Value) (f : Fl) (ad : Option Addr) (c : Nat) (l : List Ev) (hfit : f.fit) (hl : l.length ≤ maxLen) (hw : evsW l) (w : World) (hR : Rdy w) (hf : FlAt w v f) (hI : RL KE w ad l) :
 Calls Tryd.prog 18 #[v, .slice ad l.length c] w fun e w' => e = .returned (.bool (evsB f l)) ∧ Below w.heap.size w w' := by
 unfold maxLen at hl
 have HFA := Lib.hid (fun W (b : Below w.heap.size w W) => hf.below b)
 obtain ⟨x1, c1, x2, c2, x3, c3, rfl, _, _, _⟩ := hf
 have CV := Lib.hid (fun W h => valid_u (.agg #[.slice x1 f.dr.length c1, .int .i64 f.lat, .int .i64 f.lia, .slice x2 f.sv.length c2, .slice x3 f.tm.length c3]) f W hfit h)
 have HWF := Lib.hid (show ∀ k, k < l.length → (evD l k).wf from fun k hk => by rw [evD_of hk]; exact hw _ (List.getElem_mem hk))
 have HRD := Lib.hid hR
 obtain ⟨f1, f2, f3⟩ := hfit
 obtain ⟨B, hB⟩ : ∃ B, evsB f l = B := ⟨_, rfl⟩
 rw [hB]
 have HNO := Lib.hid (fun h : ¬ EvsOk f l => show B = false by rw [← hB]; exact evsB_no h)
 have HYES := Lib.hid (fun h : EvsOk f l => show B = true by rw [← hB]; exact evsB_yes h)
 have HC := Lib.hid (fun h => hI.evs h)
 obtain ⟨w0, V0, Z0, K0, B0⟩ := lay8 w [.slice x1 f.dr.length c1, .int .i64 f.lat, .int .i64 f.lia, .slice x2 f.sv.length c2, .slice x3 f.tm.length c3] 24
 have HB0 := Lib.hid B0
 obtain ⟨y0, _⟩ := K0 0 (by simp); obtain ⟨y1, _⟩ := K0 1 (by simp); obtain ⟨y2, _⟩ := K0 2 (by simp); obtain ⟨y3, _⟩ := K0 3 (by simp); obtain ⟨y4, _⟩ := K0 4 (by simp)
 simp only [List.getElem_cons_zero, List.getElem_cons_succ] at y0 y1 y2 y3 y4
 have HKX := Lib.hid (show ∀ W, Below (w.heap.size + 1) w0 W → W.cell? ⟨w.heap.size, 0, none⟩ = some (.slice x1 f.dr.length c1) ∧ W.cell? ⟨w.heap.size, 3, none⟩ = some (.slice x2 f.sv.length c2) from fun W b => ⟨(K0.up b (by omega) 0 (by simp)).1, (K0.up b (by omega) 3 (by simp)).1⟩)
 clear hB hI hR hw K0 B0
 go_enter Tryd.func18, Tryd.ntmps18
 go_wp2_with fail
 refine (CV.out _ (HFA.out _ HB0.out)).mono ?_
 rintro e w1 ⟨rfl, hb⟩
 have HB := Lib.hid (HB0.out.trans (hb.mono HB0.out.size))
 have HU := Lib.hid (show Below (w.heap.size + 1) w0 w1 from by rw [← Z0]; exact hb)
 clear hb V0 y0 y1 y2 y3 y4
 cases hv : flB f with
 | false =>
  have HF := Lib.hid (HNO.out (fun h => by rw [h.1] at hv; cases hv))
  clear hv
  go_wp2_with fail
  go_ret
  exact ⟨by rw [HF.out]; rfl, HB.out⟩
 | true =>
  have HV := Lib.hid hv
  clear hv
  by_cases h24 : (24 : Int) < (l.length : Int)
  · have HF := Lib.hid (HNO.out (fun h => by have := h.2.1; omega))
    go_wp2_with fail
    go_ret
    exact ⟨by rw [HF.out]; rfl, HB.out⟩
  · go_wp2_with fail
    refine (fieldTests_u _ (HRD.out.below HB.out)).mono ?_
    rintro e w2 ⟨tb, rfl, hF, hb⟩
    have HB2 := Lib.hid (HB.out.trans (hb.mono HB.out.size))
    have HU2 := Lib.hid (show Below (w.heap.size + 1) w0 w2 from HU.out.trans (hb.mono (by have := HU.out.size; omega)))
    have HF2 := Lib.hid hF
    clear hb hF HB HU
    go_wp2_with fail
    go_loopw [19] (fun i wr => ∃ k : Nat, k ≤ l.length ∧ i = .int .i64 k ∧ Hid (∀ j, j < k → StepOk f l j) ∧ Hid (Below w.heap.size w wr) ∧ Hid (Below (w.heap.size + 1) w0 wr) ∧ Hid (FtAt 6 wr tb)) (fun i _ => l.length - (RowKit.intOf i).toNat)
    case atStart => exact ⟨0, Nat.zero_le _, rfl, Lib.hid (fun j h => absurd h (Nat.not_lt_zero _)), HB2, HU2, HF2⟩
    case round =>
     clear HB2 HU2 HF2
     obtain ⟨k, hk, rfl, HS, HB, HU, HFT⟩ := hrel
     by_cases hlt : k < l.length
     · have hki : (k : Int) < (l.length : Int) := by omega
       obtain ⟨eb, eo, rfl, heb, hcc⟩ := HC.out (by omega)
       obtain ⟨d0, d1, d2, d3, d4, d5, d6, d7, d8, d9, d10, d11⟩ := hcc k hlt wr HB.out
       have HCP := Lib.hid (fun (h : 0 < k) => hcc (k - 1) (by omega))
       have hik := fun W => at_ev8 eb eo l.length c k hlt W
       have HLT := Lib.hid hlt
       have HNX := Lib.hid (fun h : ¬ StepOk f l k => HNO.out (fun h9 => h (h9.2.2 k HLT.out)))
       have HST := Lib.hid (show StepOk f l k → ∀ j, j < k + 1 → StepOk f l j from fun h j hj => by
        rcases Nat.lt_or_ge j k with h9 | h9
        · exact HS.out j h9
        · obtain rfl : j = k := by omega
          exact h)
       have HSO := Lib.hid (show evB (evD l k) = true → (evD l k).ag < (f.dr.length : Int) → (evD l k).op < (f.sv.length : Int) → (0 < k → (folwB (evD l (k - 1)) (evD l k) = true ↔ StepOk f l k)) ∧ (k = 0 → StepOk f l k) from fun a b c => ⟨fun hk => folw_step hk HS.out a b c, fun e => by subst e; exact step_zero a b c⟩)
       have HSN := Lib.hid (show StepOk f l k → evB (evD l k) = true ∧ (evD l k).ag < (f.dr.length : Int) ∧ (evD l k).op < (f.sv.length : Int) from fun h => ⟨h.1, h.2.1, op_of HV.out h.1 h.2.2.2.1⟩)
       have HW := Lib.hid (HWF.out k hlt)
       generalize StepOk f l k = SK at *
       generalize evD l k = x at *
       generalize evD l (k - 1) = xp at *
       obtain ⟨w3, V3, Z3, K3, B3⟩ := lay8 wr zE.cells 46
       have V3 := (show wr.alloc (.cells #[.int .i64 0, .int .i64 0, .int .i64 0, .int .i64 0, .int .i64 0, .int .i64 0, .int .i64 0, .int .i64 0, .int .i64 0, .int .i64 0, .int .i64 0, .int .i64 0] 46) = w3 from V3)
       have K3 := (show CellsAt w3 wr.heap.size [.int .i64 0, .int .i64 0, .int .i64 0, .int .i64 0, .int .i64 0, .int .i64 0, .int .i64 0, .int .i64 0, .int .i64 0, .int .i64 0, .int .i64 0, .int .i64 0] from K3)
       obtain ⟨w4, V4, K4, B4⟩ : ∃ w4, ((((((((((((w3.setCell ⟨wr.heap.size, 0, none⟩ (.int .i64 x.ag)).setCell ⟨wr.heap.size, 1, none⟩ (.int .i64 x.sq)).setCell ⟨wr.heap.size, 2, none⟩ (.int .i64 x.tm)).setCell ⟨wr.heap.size, 3, none⟩ (.int .i64 x.kd)).setCell ⟨wr.heap.size, 4, none⟩ (.int .i64 x.tr)).setCell ⟨wr.heap.size, 5, none⟩ (.int .i64 x.sp)).setCell ⟨wr.heap.size, 6, none⟩ (.int .i64 x.lk)).setCell ⟨wr.heap.size, 7, none⟩ (.int .i64 x.gn)).setCell ⟨wr.heap.size, 8, none⟩ (.int .i64 x.op)).setCell ⟨wr.heap.size, 9, none⟩ (.int .i64 x.vr)).setCell ⟨wr.heap.size, 10, none⟩ (.int .i64 x.pe)).setCell ⟨wr.heap.size, 11, none⟩ (.int .i64 x.bt)) = w4 ∧ CellsAt w4 wr.heap.size x.cells ∧ Below wr.heap.size wr w4 := ⟨_, rfl, ((((((((((((K3.put 0 _).put 1 _).put 2 _).put 3 _).put 4 _).put 5 _).put 6 _).put 7 _).put 8 _).put 9 _).put 10 _).put 11 _), ((((((((((((B3.setCell (Nat.le_refl _) _).setCell (Nat.le_refl _) _).setCell (Nat.le_refl _) _).setCell (Nat.le_refl _) _).setCell (Nat.le_refl _) _).setCell (Nat.le_refl _) _).setCell (Nat.le_refl _) _).setCell (Nat.le_refl _) _).setCell (Nat.le_refl _) _).setCell (Nat.le_refl _) _).setCell (Nat.le_refl _) _).setCell (Nat.le_refl _) _)⟩
       obtain ⟨g0, g0'⟩ := K3 0 (by simp)
       obtain ⟨g1, g1'⟩ := K3 1 (by simp)
       obtain ⟨g2, g2'⟩ := K3 2 (by simp)
       obtain ⟨g3, g3'⟩ := K3 3 (by simp)
       obtain ⟨g4, g4'⟩ := K3 4 (by simp)
       obtain ⟨g5, g5'⟩ := K3 5 (by simp)
       obtain ⟨g6, g6'⟩ := K3 6 (by simp)
       obtain ⟨g7, g7'⟩ := K3 7 (by simp)
       obtain ⟨g8, g8'⟩ := K3 8 (by simp)
       obtain ⟨g9, g9'⟩ := K3 9 (by simp)
       obtain ⟨g10, g10'⟩ := K3 10 (by simp)
       obtain ⟨g11, g11'⟩ := K3 11 (by simp)
       simp only [List.getElem_cons_zero, List.getElem_cons_succ] at g0 g1 g2 g3 g4 g5 g6 g7 g8 g9 g10 g11
       have HB4 := Lib.hid B4
       have HBW := Lib.hid (HB.out.trans (B4.mono HB.out.size))
       have hsz := HU.out.size
       have SX := Lib.hid (show ∀ W, Below w4.heap.size w4 W → EvBox W wr.heap.size x ∧ W.cell? ⟨w.heap.size, 0, none⟩ = some (.slice x1 f.dr.length c1) ∧ W.cell? ⟨w.heap.size, 3, none⟩ = some (.slice x2 f.sv.length c2) from fun W b =>
        ⟨CellsAt.ev (CellsAt.below K4 b), HKX.out W (HU.out.trans ((HB4.out.trans (b.mono HB4.out.size)).mono (by omega)))⟩)
       have HF4 := Lib.hid (HFT.out.below B4)
       have CX0 := Lib.hid (show ∀ (r : Bool), evB x = r → ∀ W, Below w4.heap.size w4 W → Calls Tryd.prog 48 #[.agg #[.int .i64 x.ag, .int .i64 x.sq, .int .i64 x.tm, .int .i64 x.kd, .int .i64 x.tr, .int .i64 x.sp, .int .i64 x.lk, .int .i64 x.gn, .int .i64 x.op, .int .i64 x.vr, .int .i64 x.pe, .int .i64 x.bt], .map (some tb)] W fun e w' => e = .returned (.bool r) ∧ Below W.heap.size W w' from fun r hr W b => by
        have := isEvent_u x HW.out tb W (HF4.out.below b)
        rw [hr] at this
        exact this)
       have CF0 := Lib.hid (show ∀ (r : Bool), folwB xp x = r → ∀ W, Calls Tryd.prog 49 #[.agg #[.int .i64 xp.ag, .int .i64 xp.sq, .int .i64 xp.tm, .int .i64 xp.kd, .int .i64 xp.tr, .int .i64 xp.sp, .int .i64 xp.lk, .int .i64 xp.gn, .int .i64 xp.op, .int .i64 xp.vr, .int .i64 xp.pe, .int .i64 xp.bt], .agg #[.int .i64 x.ag, .int .i64 x.sq, .int .i64 x.tm, .int .i64 x.kd, .int .i64 x.tr, .int .i64 x.sp, .int .i64 x.lk, .int .i64 x.gn, .int .i64 x.op, .int .i64 x.vr, .int .i64 x.pe, .int .i64 x.bt]] W fun e w' => e = .returned (.bool r) ∧ Below W.heap.size W w' from fun r hr W => by
        have := follows_u xp x W
        rw [hr] at this
        exact this)
       clear K3 K4 B3 B4 hcc hlt heb
       go_upto_region 7 with fail
       clear V3 V4 d0 d1 d2 d3 d4 d5 d6 d7 d8 d9 d10 d11 g0 g0' g1 g1' g2 g2' g3 g3' g4 g4' g5 g5' g6 g6' g7 g7' g8 g8' g9 g9' g10 g10' g11 g11'
       cases hev : evB x with
       | false =>
        have HF := Lib.hid (HNX.out (fun h => by have := (HSN.out h).1; rw [hev] at this; cases this))
        have CX := Lib.hid (CX0.out false hev)
        clear hev
        go_cut [57] from 24 to 57 (fun xv wx => xv = .bool true ∧ Hid (Below w4.heap.size w4 wx))
        case first =>
         have d0 := fun d os => (SX.out _ (below_regrown w4 d os)).1.1
         have d1 := fun d os => (SX.out _ (below_regrown w4 d os)).1.2.1
         have d2 := fun d os => (SX.out _ (below_regrown w4 d os)).1.2.2.1
         have d3 := fun d os => (SX.out _ (below_regrown w4 d os)).1.2.2.2.1
         have d4 := fun d os => (SX.out _ (below_regrown w4 d os)).1.2.2.2.2.1
         have d5 := fun d os => (SX.out _ (below_regrown w4 d os)).1.2.2.2.2.2.1
         have d6 := fun d os => (SX.out _ (below_regrown w4 d os)).1.2.2.2.2.2.2.1
         have d7 := fun d os => (SX.out _ (below_regrown w4 d os)).1.2.2.2.2.2.2.2.1
         have d8 := fun d os => (SX.out _ (below_regrown w4 d os)).1.2.2.2.2.2.2.2.2.1
         have d9 := fun d os => (SX.out _ (below_regrown w4 d os)).1.2.2.2.2.2.2.2.2.2.1
         have d10 := fun d os => (SX.out _ (below_regrown w4 d os)).1.2.2.2.2.2.2.2.2.2.2.1
         have d11 := fun d os => (SX.out _ (below_regrown w4 d os)).1.2.2.2.2.2.2.2.2.2.2.2
         have d12 := fun d os => (SX.out _ (below_regrown w4 d os)).2.1
         have d13 := fun d os => (SX.out _ (below_regrown w4 d os)).2.2
         refine wp_region_quiet_below (by kernel_rfl) (by kernel_rfl) ?_
         repeat (first | go_big_quiet_step ((first | (go_at_call 48; exact Calls.regrown_of (CX.out _ (below_regrown _ _ _))) | (go_at_call 49; exact Calls.regrown_of (CF.out _)))) | quiet_step ((first | (go_at_call 48; exact Calls.regrown_of (CX.out _ (below_regrown _ _ _))) | (go_at_call 49; exact Calls.regrown_of (CF.out _)))))
         refine wpQuiet_nil ?_
         intro _ hw'
         obtain ⟨⟨dq, osq⟩, hw''⟩ := hw'
         subst hw''
         go_wp2_with fail
         go_meet
         exact ⟨rfl, Lib.hid (below_regrown _ _ _)⟩
        case rest =>
         obtain ⟨rfl, HB5⟩ := hcut
         generalize wc = w5 at *
         go_wp2_with fail
         go_ret
         exact ⟨by rw [HF.out]; rfl, HBW.out.trans (HB5.out.mono HBW.out.size)⟩
       | true =>
        have CX := Lib.hid (CX0.out true hev)
        have HEV := Lib.hid hev
        clear hev CX0
        by_cases hag : x.ag < (f.dr.length : Int)
        · have HAG := Lib.hid hag
          have e1 : decide ((f.dr.length : Int) ≤ x.ag) = false := decide_eq_false (by omega)
          clear hag
          by_cases hop : x.op < (f.sv.length : Int)
          · have HOP := Lib.hid hop
            have e2 : decide ((f.sv.length : Int) ≤ x.op) = false := decide_eq_false (by omega)
            clear hop
            rcases Nat.eq_zero_or_pos k with hk0 | hk0
            · have HOK := Lib.hid ((HSO.out HEV.out HAG.out HOP.out).2 hk0)
              have z0 : decide ((0 : Int) < (k : Int)) = false := decide_eq_false (by omega)
              have z1 : decide (0 < k) = false := decide_eq_false (by omega)
              clear hk0
              go_cut [57] from 24 to 57 (fun xv wx => xv = .bool false ∧ Hid (Below w4.heap.size w4 wx))
              case first =>
               have d0 := fun d os => (SX.out _ (below_regrown w4 d os)).1.1
               have d1 := fun d os => (SX.out _ (below_regrown w4 d os)).1.2.1
               have d2 := fun d os => (SX.out _ (below_regrown w4 d os)).1.2.2.1
               have d3 := fun d os => (SX.out _ (below_regrown w4 d os)).1.2.2.2.1
               have d4 := fun d os => (SX.out _ (below_regrown w4 d os)).1.2.2.2.2.1
               have d5 := fun d os => (SX.out _ (below_regrown w4 d os)).1.2.2.2.2.2.1
               have d6 := fun d os => (SX.out _ (below_regrown w4 d os)).1.2.2.2.2.2.2.1
               have d7 := fun d os => (SX.out _ (below_regrown w4 d os)).1.2.2.2.2.2.2.2.1
               have d8 := fun d os => (SX.out _ (below_regrown w4 d os)).1.2.2.2.2.2.2.2.2.1
               have d9 := fun d os => (SX.out _ (below_regrown w4 d os)).1.2.2.2.2.2.2.2.2.2.1
               have d10 := fun d os => (SX.out _ (below_regrown w4 d os)).1.2.2.2.2.2.2.2.2.2.2.1
               have d11 := fun d os => (SX.out _ (below_regrown w4 d os)).1.2.2.2.2.2.2.2.2.2.2.2
               have d12 := fun d os => (SX.out _ (below_regrown w4 d os)).2.1
               have d13 := fun d os => (SX.out _ (below_regrown w4 d os)).2.2
               refine wp_region_quiet_below (by kernel_rfl) (by kernel_rfl) ?_
               repeat (first | go_big_quiet_step ((first | (go_at_call 48; exact Calls.regrown_of (CX.out _ (below_regrown _ _ _))) | (go_at_call 49; exact Calls.regrown_of (CF.out _)))) | quiet_step ((first | (go_at_call 48; exact Calls.regrown_of (CX.out _ (below_regrown _ _ _))) | (go_at_call 49; exact Calls.regrown_of (CF.out _)))))
               refine wpQuiet_nil ?_
               intro _ hw'
               obtain ⟨⟨dq, osq⟩, hw''⟩ := hw'
               subst hw''
               go_wp2_with fail
               go_meet
               exact ⟨rfl, Lib.hid (below_regrown _ _ _)⟩
              case rest =>
               obtain ⟨rfl, HB5⟩ := hcut
               generalize wc = w5 at *
               have HB6 := Lib.hid (HB4.out.trans (HB5.out.mono HB4.out.size))
               go_wp2_with fail
               go_roundw
               case rel => exact ⟨k + 1, HLT.out, by go_num, HST.out HOK.out, Lib.hid (HBW.out.trans (HB5.out.mono HBW.out.size)), Lib.hid (HU.out.trans (HB6.out.mono (by omega))), Lib.hid (HF4.out.below HB5.out)⟩
               case measure => have h9 := HLT.out; simp [RowKit.intOf]; omega
            · obtain ⟨kp, hkp⟩ : ∃ kp, k - 1 = kp := ⟨_, rfl⟩
              have hkp2 : kp < l.length := by have := HLT.out; omega
              have SP := Lib.hid (show ∀ W, Below w4.heap.size w4 W → EvCells W eb (eo + 12 * kp) xp from fun W b => by
               have h := HCP.out hk0 W (HBW.out.trans (b.mono HBW.out.size))
               rw [hkp] at h
               exact h)
              have hip := fun W => at_ev8 eb eo l.length c kp hkp2 W
              have hw1 : IntKind.i64.wrap ((k : Int) - 1) = (kp : Int) := by rw [IntWalk.i64_in _ (by omega)]; omega
              have hw2 : (k : Int) - 1 = (kp : Int) := by omega
              have z0 : decide ((0 : Int) < (k : Int)) = true := decide_eq_true (by omega)
              have z1 : decide (0 < k) = true := decide_eq_true hk0
              have HFW := Lib.hid ((HSO.out HEV.out HAG.out HOP.out).1 hk0)
              clear hk0 hkp
              cases hfw : folwB xp x with
              | false =>
               have HF := Lib.hid (HNX.out (fun h => by have := HFW.out.2 h; rw [hfw] at this; cases this))
               have CF := Lib.hid (CF0.out false hfw)
               clear hfw
               go_cut [57] from 24 to 57 (fun xv wx => xv = .bool true ∧ Hid (Below w4.heap.size w4 wx))
               case first =>
                have d0 := fun d os => (SX.out _ (below_regrown w4 d os)).1.1
                have d1 := fun d os => (SX.out _ (below_regrown w4 d os)).1.2.1
                have d2 := fun d os => (SX.out _ (below_regrown w4 d os)).1.2.2.1
                have d3 := fun d os => (SX.out _ (below_regrown w4 d os)).1.2.2.2.1
                have d4 := fun d os => (SX.out _ (below_regrown w4 d os)).1.2.2.2.2.1
                have d5 := fun d os => (SX.out _ (below_regrown w4 d os)).1.2.2.2.2.2.1
                have d6 := fun d os => (SX.out _ (below_regrown w4 d os)).1.2.2.2.2.2.2.1
                have d7 := fun d os => (SX.out _ (below_regrown w4 d os)).1.2.2.2.2.2.2.2.1
                have d8 := fun d os => (SX.out _ (below_regrown w4 d os)).1.2.2.2.2.2.2.2.2.1
                have d9 := fun d os => (SX.out _ (below_regrown w4 d os)).1.2.2.2.2.2.2.2.2.2.1
                have d10 := fun d os => (SX.out _ (below_regrown w4 d os)).1.2.2.2.2.2.2.2.2.2.2.1
                have d11 := fun d os => (SX.out _ (below_regrown w4 d os)).1.2.2.2.2.2.2.2.2.2.2.2
                have d12 := fun d os => (SX.out _ (below_regrown w4 d os)).2.1
                have d13 := fun d os => (SX.out _ (below_regrown w4 d os)).2.2
                have p0 := fun d os => (SP.out _ (below_regrown w4 d os)).1
                have p1 := fun d os => (SP.out _ (below_regrown w4 d os)).2.1
                have p2 := fun d os => (SP.out _ (below_regrown w4 d os)).2.2.1
                have p3 := fun d os => (SP.out _ (below_regrown w4 d os)).2.2.2.1
                have p4 := fun d os => (SP.out _ (below_regrown w4 d os)).2.2.2.2.1
                have p5 := fun d os => (SP.out _ (below_regrown w4 d os)).2.2.2.2.2.1
                have p6 := fun d os => (SP.out _ (below_regrown w4 d os)).2.2.2.2.2.2.1
                have p7 := fun d os => (SP.out _ (below_regrown w4 d os)).2.2.2.2.2.2.2.1
                have p8 := fun d os => (SP.out _ (below_regrown w4 d os)).2.2.2.2.2.2.2.2.1
                have p9 := fun d os => (SP.out _ (below_regrown w4 d os)).2.2.2.2.2.2.2.2.2.1
                have p10 := fun d os => (SP.out _ (below_regrown w4 d os)).2.2.2.2.2.2.2.2.2.2.1
                have p11 := fun d os => (SP.out _ (below_regrown w4 d os)).2.2.2.2.2.2.2.2.2.2.2
                refine wp_region_quiet_below (by kernel_rfl) (by kernel_rfl) ?_
                repeat (first | go_big_quiet_step ((first | (go_at_call 48; exact Calls.regrown_of (CX.out _ (below_regrown _ _ _))) | (go_at_call 49; exact Calls.regrown_of (CF.out _)))) | quiet_step ((first | (go_at_call 48; exact Calls.regrown_of (CX.out _ (below_regrown _ _ _))) | (go_at_call 49; exact Calls.regrown_of (CF.out _)))))
                refine wpQuiet_nil ?_
                intro _ hw'
                obtain ⟨⟨dq, osq⟩, hw''⟩ := hw'
                subst hw''
                go_wp2_with fail
                go_meet
                exact ⟨rfl, Lib.hid (below_regrown _ _ _)⟩
               case rest =>
                obtain ⟨rfl, HB5⟩ := hcut
                generalize wc = w5 at *
                go_wp2_with fail
                go_ret
                exact ⟨by rw [HF.out]; rfl, HBW.out.trans (HB5.out.mono HBW.out.size)⟩
              | true =>
               have HOK := Lib.hid (HFW.out.1 hfw)
               have CF := Lib.hid (CF0.out true hfw)
               clear hfw
               go_cut [57] from 24 to 57 (fun xv wx => xv = .bool false ∧ Hid (Below w4.heap.size w4 wx))
               case first =>
                have d0 := fun d os => (SX.out _ (below_regrown w4 d os)).1.1
                have d1 := fun d os => (SX.out _ (below_regrown w4 d os)).1.2.1
                have d2 := fun d os => (SX.out _ (below_regrown w4 d os)).1.2.2.1
                have d3 := fun d os => (SX.out _ (below_regrown w4 d os)).1.2.2.2.1
                have d4 := fun d os => (SX.out _ (below_regrown w4 d os)).1.2.2.2.2.1
                have d5 := fun d os => (SX.out _ (below_regrown w4 d os)).1.2.2.2.2.2.1
                have d6 := fun d os => (SX.out _ (below_regrown w4 d os)).1.2.2.2.2.2.2.1
                have d7 := fun d os => (SX.out _ (below_regrown w4 d os)).1.2.2.2.2.2.2.2.1
                have d8 := fun d os => (SX.out _ (below_regrown w4 d os)).1.2.2.2.2.2.2.2.2.1
                have d9 := fun d os => (SX.out _ (below_regrown w4 d os)).1.2.2.2.2.2.2.2.2.2.1
                have d10 := fun d os => (SX.out _ (below_regrown w4 d os)).1.2.2.2.2.2.2.2.2.2.2.1
                have d11 := fun d os => (SX.out _ (below_regrown w4 d os)).1.2.2.2.2.2.2.2.2.2.2.2
                have d12 := fun d os => (SX.out _ (below_regrown w4 d os)).2.1
                have d13 := fun d os => (SX.out _ (below_regrown w4 d os)).2.2
                have p0 := fun d os => (SP.out _ (below_regrown w4 d os)).1
                have p1 := fun d os => (SP.out _ (below_regrown w4 d os)).2.1
                have p2 := fun d os => (SP.out _ (below_regrown w4 d os)).2.2.1
                have p3 := fun d os => (SP.out _ (below_regrown w4 d os)).2.2.2.1
                have p4 := fun d os => (SP.out _ (below_regrown w4 d os)).2.2.2.2.1
                have p5 := fun d os => (SP.out _ (below_regrown w4 d os)).2.2.2.2.2.1
                have p6 := fun d os => (SP.out _ (below_regrown w4 d os)).2.2.2.2.2.2.1
                have p7 := fun d os => (SP.out _ (below_regrown w4 d os)).2.2.2.2.2.2.2.1
                have p8 := fun d os => (SP.out _ (below_regrown w4 d os)).2.2.2.2.2.2.2.2.1
                have p9 := fun d os => (SP.out _ (below_regrown w4 d os)).2.2.2.2.2.2.2.2.2.1
                have p10 := fun d os => (SP.out _ (below_regrown w4 d os)).2.2.2.2.2.2.2.2.2.2.1
                have p11 := fun d os => (SP.out _ (below_regrown w4 d os)).2.2.2.2.2.2.2.2.2.2.2
                refine wp_region_quiet_below (by kernel_rfl) (by kernel_rfl) ?_
                repeat (first | go_big_quiet_step ((first | (go_at_call 48; exact Calls.regrown_of (CX.out _ (below_regrown _ _ _))) | (go_at_call 49; exact Calls.regrown_of (CF.out _)))) | quiet_step ((first | (go_at_call 48; exact Calls.regrown_of (CX.out _ (below_regrown _ _ _))) | (go_at_call 49; exact Calls.regrown_of (CF.out _)))))
                refine wpQuiet_nil ?_
                intro _ hw'
                obtain ⟨⟨dq, osq⟩, hw''⟩ := hw'
                subst hw''
                go_wp2_with fail
                go_meet
                exact ⟨rfl, Lib.hid (below_regrown _ _ _)⟩
               case rest =>
                obtain ⟨rfl, HB5⟩ := hcut
                generalize wc = w5 at *
                have HB6 := Lib.hid (HB4.out.trans (HB5.out.mono HB4.out.size))
                go_wp2_with fail
                go_roundw
                case rel => exact ⟨k + 1, HLT.out, by go_num, HST.out HOK.out, Lib.hid (HBW.out.trans (HB5.out.mono HBW.out.size)), Lib.hid (HU.out.trans (HB6.out.mono (by omega))), Lib.hid (HF4.out.below HB5.out)⟩
                case measure => have h9 := HLT.out; simp [RowKit.intOf]; omega
          · have HF := Lib.hid (HNX.out (fun h => hop (HSN.out h).2.2))
            have e2 : decide ((f.sv.length : Int) ≤ x.op) = true := decide_eq_true (by omega)
            clear hop
            go_cut [57] from 24 to 57 (fun xv wx => xv = .bool true ∧ Hid (Below w4.heap.size w4 wx))
            case first =>
             have d0 := fun d os => (SX.out _ (below_regrown w4 d os)).1.1
             have d1 := fun d os => (SX.out _ (below_regrown w4 d os)).1.2.1
             have d2 := fun d os => (SX.out _ (below_regrown w4 d os)).1.2.2.1
             have d3 := fun d os => (SX.out _ (below_regrown w4 d os)).1.2.2.2.1
             have d4 := fun d os => (SX.out _ (below_regrown w4 d os)).1.2.2.2.2.1
             have d5 := fun d os => (SX.out _ (below_regrown w4 d os)).1.2.2.2.2.2.1
             have d6 := fun d os => (SX.out _ (below_regrown w4 d os)).1.2.2.2.2.2.2.1
             have d7 := fun d os => (SX.out _ (below_regrown w4 d os)).1.2.2.2.2.2.2.2.1
             have d8 := fun d os => (SX.out _ (below_regrown w4 d os)).1.2.2.2.2.2.2.2.2.1
             have d9 := fun d os => (SX.out _ (below_regrown w4 d os)).1.2.2.2.2.2.2.2.2.2.1
             have d10 := fun d os => (SX.out _ (below_regrown w4 d os)).1.2.2.2.2.2.2.2.2.2.2.1
             have d11 := fun d os => (SX.out _ (below_regrown w4 d os)).1.2.2.2.2.2.2.2.2.2.2.2
             have d12 := fun d os => (SX.out _ (below_regrown w4 d os)).2.1
             have d13 := fun d os => (SX.out _ (below_regrown w4 d os)).2.2
             refine wp_region_quiet_below (by kernel_rfl) (by kernel_rfl) ?_
             repeat (first | go_big_quiet_step ((first | (go_at_call 48; exact Calls.regrown_of (CX.out _ (below_regrown _ _ _))) | (go_at_call 49; exact Calls.regrown_of (CF.out _)))) | quiet_step ((first | (go_at_call 48; exact Calls.regrown_of (CX.out _ (below_regrown _ _ _))) | (go_at_call 49; exact Calls.regrown_of (CF.out _)))))
             refine wpQuiet_nil ?_
             intro _ hw'
             obtain ⟨⟨dq, osq⟩, hw''⟩ := hw'
             subst hw''
             go_wp2_with fail
             go_meet
             exact ⟨rfl, Lib.hid (below_regrown _ _ _)⟩
            case rest =>
             obtain ⟨rfl, HB5⟩ := hcut
             generalize wc = w5 at *
             go_wp2_with fail
             go_ret
             exact ⟨by rw [HF.out]; rfl, HBW.out.trans (HB5.out.mono HBW.out.size)⟩
        · have HF := Lib.hid (HNX.out (fun h => hag (HSN.out h).2.1))
          have e1 : decide ((f.dr.length : Int) ≤ x.ag) = true := decide_eq_true (by omega)
          clear hag
          go_cut [57] from 24 to 57 (fun xv wx => xv = .bool true ∧ Hid (Below w4.heap.size w4 wx))
          case first =>
           have d0 := fun d os => (SX.out _ (below_regrown w4 d os)).1.1
           have d1 := fun d os => (SX.out _ (below_regrown w4 d os)).1.2.1
           have d2 := fun d os => (SX.out _ (below_regrown w4 d os)).1.2.2.1
           have d3 := fun d os => (SX.out _ (below_regrown w4 d os)).1.2.2.2.1
           have d4 := fun d os => (SX.out _ (below_regrown w4 d os)).1.2.2.2.2.1
           have d5 := fun d os => (SX.out _ (below_regrown w4 d os)).1.2.2.2.2.2.1
           have d6 := fun d os => (SX.out _ (below_regrown w4 d os)).1.2.2.2.2.2.2.1
           have d7 := fun d os => (SX.out _ (below_regrown w4 d os)).1.2.2.2.2.2.2.2.1
           have d8 := fun d os => (SX.out _ (below_regrown w4 d os)).1.2.2.2.2.2.2.2.2.1
           have d9 := fun d os => (SX.out _ (below_regrown w4 d os)).1.2.2.2.2.2.2.2.2.2.1
           have d10 := fun d os => (SX.out _ (below_regrown w4 d os)).1.2.2.2.2.2.2.2.2.2.2.1
           have d11 := fun d os => (SX.out _ (below_regrown w4 d os)).1.2.2.2.2.2.2.2.2.2.2.2
           have d12 := fun d os => (SX.out _ (below_regrown w4 d os)).2.1
           have d13 := fun d os => (SX.out _ (below_regrown w4 d os)).2.2
           refine wp_region_quiet_below (by kernel_rfl) (by kernel_rfl) ?_
           repeat (first | go_big_quiet_step ((first | (go_at_call 48; exact Calls.regrown_of (CX.out _ (below_regrown _ _ _))) | (go_at_call 49; exact Calls.regrown_of (CF.out _)))) | quiet_step ((first | (go_at_call 48; exact Calls.regrown_of (CX.out _ (below_regrown _ _ _))) | (go_at_call 49; exact Calls.regrown_of (CF.out _)))))
           refine wpQuiet_nil ?_
           intro _ hw'
           obtain ⟨⟨dq, osq⟩, hw''⟩ := hw'
           subst hw''
           go_wp2_with fail
           go_meet
           exact ⟨rfl, Lib.hid (below_regrown _ _ _)⟩
          case rest =>
           obtain ⟨rfl, HB5⟩ := hcut
           generalize wc = w5 at *
           go_wp2_with fail
           go_ret
           exact ⟨by rw [HF.out]; rfl, HBW.out.trans (HB5.out.mono HBW.out.size)⟩
     · have hke : k = l.length := by omega
       have HF := Lib.hid (HYES.out ⟨HV.out, by omega, fun i hi => HS.out i (by omega)⟩)
       have hki : ¬ (k : Int) < (l.length : Int) := by omega
       clear hlt
       go_wp2_with fail
       go_ret
       exact ⟨by rw [HF.out]; rfl, HB.out⟩
end Go.Proofs.YtamefmojocegkaaDoor

namespace Go.Proofs.YtamefmojocegkaaDoor
open Go Go.Proofs Go.RowKit Go.Lib
def hiV (dr d : Int) : Int := (d + 1) * (1000000 + dr) - 1
theorem prod_bd8 {a b : Int} (a0 : -1000002 ≤ a) (a1 : a ≤ 1000002) (b0 : 0 ≤ b) (b1 : b ≤ 1001000) : -1001002002000 ≤ a * b ∧ a * b ≤ 1001002002000 := by
 constructor
 · calc (-1001002002000 : Int) = -1000002 * 1001000 := by decide
    _ ≤ -1000002 * b := Int.mul_le_mul_of_nonpos_left (by decide) b1
    _ ≤ a * b := Int.mul_le_mul_of_nonneg_right a0 b0
 · calc a * b ≤ 1000002 * b := Int.mul_le_mul_of_nonneg_right a1 b0
    _ ≤ 1000002 * 1001000 := Int.mul_le_mul_of_nonneg_left b1 (by decide)
    _ = 1001002002000 := by decide
def IvPost (w : World) (lo hi : Int) (e : Ending) (w' : World) : Prop := e = .returned (.agg #[.int .i64 lo, .int .i64 hi]) ∧ Below w.heap.size w w'
theorem elapsed_u (d dr : Int) (d0 : -1000000 ≤ d) (d1 : d ≤ 1000000) (r0 : 0 ≤ dr) (r1 : dr ≤ 1000) (w : World) : Calls Tryd.prog 68 #[.int .i64 d, .int .i64 dr] w (IvPost w (low8 dr d) (hiV dr d)) := by
 obtain ⟨p0, p1⟩ := prod_bd8 (a := d + 1) (b := 1000000 + dr) (by omega) (by omega) (by omega) (by omega)
 obtain ⟨q0, q1⟩ := prod_bd8 (a := d - 1) (b := 1000000 - dr) (by omega) (by omega) (by omega) (by omega)
 obtain ⟨H, hH⟩ : ∃ H, hiV dr d = H := ⟨_, rfl⟩
 obtain ⟨L, hL⟩ : ∃ L, low8 dr d = L := ⟨_, rfl⟩
 rw [hH, hL]
 have hw1 : IntKind.i64.wrap (d + 1) = d + 1 := IntWalk.i64_in _ (by omega)
 have hw2 : IntKind.i64.wrap (1000000 + dr) = 1000000 + dr := IntWalk.i64_in _ (by omega)
 have hw3 : IntKind.i64.wrap ((d + 1) * (1000000 + dr)) = (d + 1) * (1000000 + dr) := IntWalk.i64_in _ (by omega)
 have hw4 : IntKind.i64.wrap ((d + 1) * (1000000 + dr) - 1) = H := by rw [← hH]; exact IntWalk.i64_in _ (by omega)
 have hw5 : IntKind.i64.wrap (d - 1) = d - 1 := IntWalk.i64_in _ (by omega)
 have hw6 : IntKind.i64.wrap (1000000 - dr) = 1000000 - dr := IntWalk.i64_in _ (by omega)
 have hw7 : IntKind.i64.wrap ((d - 1) * (1000000 - dr)) = (d - 1) * (1000000 - dr) := IntWalk.i64_in _ (by omega)
 have HLO := Lib.hid (show 1 ≤ d → IntKind.i64.wrap ((d - 1) * (1000000 - dr) + 1) = L from fun h => by rw [← hL]; unfold low8; rw [if_pos h]; exact IntWalk.i64_in _ (by omega))
 have HLZ := Lib.hid (show ¬ 1 ≤ d → L = 0 from fun h => by rw [← hL]; unfold low8; rw [if_neg h])
 obtain ⟨w1, V1, Z1, K1, B1⟩ := lay8 w [.int .i64 0, .int .i64 0] 118
 obtain ⟨w2, V2, Z2, K2, B2⟩ := lay8 w1 [.int .i64 0, .int .i64 0] 118
 rw [Z1] at Z2 K2 B2
 have K1 := K1.up B2 (by omega)
 have HB2 := Lib.hid (show Below w.heap.size w w2 from B1.trans (B2.mono (by omega)))
 obtain ⟨g0, g0'⟩ := K2 0 (by simp); obtain ⟨g1, g1'⟩ := K2 1 (by simp)
 obtain ⟨w3, V3, K3, R3, B3⟩ : ∃ w3, (w2.setCell ⟨w.heap.size + 1, 0, none⟩ (.int .i64 0)).setCell ⟨w.heap.size + 1, 1, none⟩ (.int .i64 H) = w3 ∧ CellsAt w3 (w.heap.size + 1) [.int .i64 0, .int .i64 H] ∧ CellsAt w3 w.heap.size [.int .i64 0, .int .i64 0] ∧ Below w.heap.size w w3 :=
  ⟨_, rfl, (K2.put 0 _).put 1 _, ((K1.far (by omega)).far (by omega)), ((HB2.out.setCell (p := ⟨w.heap.size + 1, 0, none⟩) (by show _ ≤ _ + 1; omega) _).setCell (p := ⟨w.heap.size + 1, 1, none⟩) (by show _ ≤ _ + 1; omega) _)⟩
 obtain ⟨h0, h0'⟩ := K3 0 (by simp); obtain ⟨h1, h1'⟩ := K3 1 (by simp)
 obtain ⟨r0', r0''⟩ := R3 0 (by simp); obtain ⟨r1', r1''⟩ := R3 1 (by simp)
 simp only [List.getElem_cons_zero, List.getElem_cons_succ] at g0 g1 h0 h1 r0' r1'
 have HK3 := Lib.hid K3; have HR3 := Lib.hid R3; have HB3 := Lib.hid B3
 clear K1 K2 K3 R3 B1 B2 B3 p0 p1 q0 q1 hH hL
 by_cases hd : 1 ≤ d
 · have hwl := HLO.out hd
   obtain ⟨w4, V4, K4, R4, B4⟩ : ∃ w4, w3.setCell ⟨w.heap.size + 1, 0, none⟩ (.int .i64 L) = w4 ∧ CellsAt w4 (w.heap.size + 1) [.int .i64 L, .int .i64 H] ∧ CellsAt w4 w.heap.size [.int .i64 0, .int .i64 0] ∧ Below w.heap.size w w4 :=
    ⟨_, rfl, HK3.out.put 0 _, HR3.out.far (by omega), HB3.out.setCell (p := ⟨w.heap.size + 1, 0, none⟩) (by show _ ≤ _ + 1; omega) _⟩
   obtain ⟨w5, V5, K5, B5⟩ : ∃ w5, (w4.setCell ⟨w.heap.size, 0, none⟩ (.int .i64 L)).setCell ⟨w.heap.size, 1, none⟩ (.int .i64 H) = w5 ∧ CellsAt w5 w.heap.size [.int .i64 L, .int .i64 H] ∧ Below w.heap.size w w5 :=
    ⟨_, rfl, (R4.put 0 _).put 1 _, ((B4.setCell (Nat.le_refl _) _).setCell (Nat.le_refl _) _)⟩
   obtain ⟨i0, i0'⟩ := K4 0 (by simp); obtain ⟨i1, i1'⟩ := K4 1 (by simp); obtain ⟨j0, j0'⟩ := R4 0 (by simp); obtain ⟨j1, j1'⟩ := R4 1 (by simp)
   have k0 := (K5 0 (by simp)).1; have k1 := (K5 1 (by simp)).1
   simp only [List.getElem_cons_zero, List.getElem_cons_succ] at i0 i1 j0 j1 k0 k1
   have HB5 := Lib.hid B5
   clear K4 R4 K5 B4 B5 HLO HLZ
   go_enter Tryd.func68, Tryd.ntmps68
   go_wp2_with fail
   exact bodyPost_ret (v := .agg #[.int .i64 L, .int .i64 H]) (by simp [results, Tryd.results68, go_sem, k0, k1]) rfl ⟨rfl, HB5.out⟩
 · have hl0 := HLZ.out hd
   subst hl0
   obtain ⟨w5, V5, K5, B5⟩ : ∃ w5, (w3.setCell ⟨w.heap.size, 0, none⟩ (.int .i64 0)).setCell ⟨w.heap.size, 1, none⟩ (.int .i64 H) = w5 ∧ CellsAt w5 w.heap.size [.int .i64 0, .int .i64 H] ∧ Below w.heap.size w w5 :=
    ⟨_, rfl, (HR3.out.put 0 _).put 1 _, ((HB3.out.setCell (Nat.le_refl _) _).setCell (Nat.le_refl _) _)⟩
   have k0 := (K5 0 (by simp)).1; have k1 := (K5 1 (by simp)).1
   simp only [List.getElem_cons_zero, List.getElem_cons_succ] at k0 k1
   have HB5 := Lib.hid B5
   clear K5 B5 HLO HLZ
   go_enter Tryd.func68, Tryd.ntmps68
   go_wp2_with fail
   exact bodyPost_ret (v := .agg #[.int .i64 0, .int .i64 H]) (by simp [results, Tryd.results68, go_sem, k0, k1]) rfl ⟨rfl, HB5.out⟩
theorem atLeast_u (n : Int) (w : World) : Calls Tryd.prog 70 #[.int .i64 n] w fun e w' => e = .returned (.func (.func 80) #[] #[.pointer (some ⟨w.heap.size, 0, none⟩)]) ∧ w.alloc (.cells #[.int .i64 n] 3) = w' := by
 go_enter Tryd.func70, Tryd.ntmps70
 go_wp2
 go_ret
 exact ⟨rfl, rfl⟩
theorem atLeast1_u (a b : Ev) (n : Int) (A : Nat) (w : World) (hA : w.cell? ⟨A, 0, none⟩ = some (.int .i64 n)) : Calls Tryd.prog 80 #[a.val, b.val, .pointer (some ⟨A, 0, none⟩)] w (IvPost w n 1152921504606846976) := by
 obtain ⟨ag1, sq1, tm1, kd1, tr1, sp1, lk1, gn1, op1, vr1, pe1, bt1⟩ := a
 obtain ⟨ag2, sq2, tm2, kd2, tr2, sp2, lk2, gn2, op2, vr2, pe2, bt2⟩ := b
 unfold Ev.val
 dsimp only
 obtain ⟨w1, V1, Z1, K1, B1⟩ := lay8 w [.int .i64 ag1, .int .i64 sq1, .int .i64 tm1, .int .i64 kd1, .int .i64 tr1, .int .i64 sp1, .int .i64 lk1, .int .i64 gn1, .int .i64 op1, .int .i64 vr1, .int .i64 pe1, .int .i64 bt1] 46
 obtain ⟨w2, V2, Z2, K2, B2⟩ := lay8 w1 [.int .i64 ag2, .int .i64 sq2, .int .i64 tm2, .int .i64 kd2, .int .i64 tr2, .int .i64 sp2, .int .i64 lk2, .int .i64 gn2, .int .i64 op2, .int .i64 vr2, .int .i64 pe2, .int .i64 bt2] 46
 obtain ⟨w3, V3, Z3, K3, B3⟩ := lay8 w2 [.int .i64 0, .int .i64 0] 118
 rw [Z1] at Z2 K2 B2
 rw [Z2] at Z3 K3 B3
 have HB3 := Lib.hid (show Below w.heap.size w w3 from (B1.trans (B2.mono (by omega))).trans (B3.mono (by omega)))
 have hA3 := (HB3.out.cell (p := ⟨A, 0, none⟩) (World.block_lt_of_cell? w ⟨A, 0, none⟩ hA)).trans hA
 obtain ⟨g0, g0'⟩ := K3 0 (by simp); obtain ⟨g1, g1'⟩ := K3 1 (by simp)
 obtain ⟨w5, V5, K5, B5⟩ : ∃ w5, (w3.setCell ⟨w.heap.size + 1 + 1, 0, none⟩ (.int .i64 n)).setCell ⟨w.heap.size + 1 + 1, 1, none⟩ (.int .i64 1152921504606846976) = w5 ∧ CellsAt w5 (w.heap.size + 1 + 1) [.int .i64 n, .int .i64 1152921504606846976] ∧ Below w.heap.size w w5 :=
  ⟨_, rfl, (K3.put 0 _).put 1 _, ((HB3.out.setCell (p := ⟨w.heap.size + 1 + 1, 0, none⟩) (by show _ ≤ _ + 1 + 1; omega) _).setCell (p := ⟨w.heap.size + 1 + 1, 1, none⟩) (by show _ ≤ _ + 1 + 1; omega) _)⟩
 have k0 := (K5 0 (by simp)).1; have k1 := (K5 1 (by simp)).1
 simp only [List.getElem_cons_zero, List.getElem_cons_succ] at g0 g1 k0 k1
 have HB5 := Lib.hid B5
 clear K1 K2 K3 K5 B1 B2 B3 B5 hA
 go_enter Tryd.func80, Tryd.ntmps80
 go_wp2_with fail
 exact bodyPost_ret (v := .agg #[.int .i64 n, .int .i64 1152921504606846976]) (by simp [results, Tryd.results80, go_sem, k0, k1]) rfl ⟨rfl, HB5.out⟩
theorem rules1_u (a b : Ev) (f : Fl) (Bf : Nat) (x1 : Option Addr) (c1 : Nat) (w : World) (hF : w.cell? ⟨Bf, 0, none⟩ = some (.slice x1 f.dr.length c1)) (hI : RL KI w x1 f.dr) (hfl : flB f = true) (ha : evB a = true) (hb : evB b = true) (hag : a.ag < (f.dr.length : Int)) :
 Calls Tryd.prog 67 #[a.val, b.val, .pointer (some ⟨Bf, 0, none⟩)] w (IvPost w (low8 (f.drOf a.ag) (b.tm - a.tm)) (hiV (f.drOf a.ag) (b.tm - a.tm))) := by
 obtain ⟨⟨a0, _⟩, _, ⟨t0, t1⟩, _⟩ := evB_of ha
 obtain ⟨_, _, ⟨s0, s1⟩, _⟩ := evB_of hb
 obtain ⟨d0, d1⟩ := drOf_bd hfl a0 hag
 have CE := Lib.hid (fun W => elapsed_u (b.tm - a.tm) (f.drOf a.ag) (by omega) (by omega) d0 d1 W)
 obtain ⟨q, hq⟩ := Int.eq_ofNat_of_zero_le a0
 have hql : q < f.dr.length := by omega
 obtain ⟨eb, eo, rfl, heb, hcc⟩ := hI.ints8 (by omega)
 have hD : xD f.dr q = f.drOf a.ag := by unfold xD Fl.drOf; rw [hq]; rfl
 have hc := hcc q hql
 rw [hD] at hc
 have hik := fun W => at_int8 eb eo f.dr.length c1 q hql W
 have hws : IntKind.i64.wrap (b.tm - a.tm) = b.tm - a.tm := IntWalk.i64_in _ (by omega)
 generalize f.drOf a.ag = D at *
 obtain ⟨L, hL⟩ : ∃ L, low8 D (b.tm - a.tm) = L := ⟨_, rfl⟩
 obtain ⟨H, hH⟩ : ∃ H, hiV D (b.tm - a.tm) = H := ⟨_, rfl⟩
 rw [hL, hH] at CE ⊢
 clear hL hH hD hcc ha hb hag
 obtain ⟨ag1, sq1, tm1, kd1, tr1, sp1, lk1, gn1, op1, vr1, pe1, bt1⟩ := a
 obtain ⟨ag2, sq2, tm2, kd2, tr2, sp2, lk2, gn2, op2, vr2, pe2, bt2⟩ := b
 unfold Ev.val
 dsimp only at *
 subst hq
 obtain ⟨w1, V1, Z1, K1, B1⟩ := lay8 w [.int .i64 (q : Int), .int .i64 sq1, .int .i64 tm1, .int .i64 kd1, .int .i64 tr1, .int .i64 sp1, .int .i64 lk1, .int .i64 gn1, .int .i64 op1, .int .i64 vr1, .int .i64 pe1, .int .i64 bt1] 46
 obtain ⟨w2, V2, Z2, K2, B2⟩ := lay8 w1 [.int .i64 ag2, .int .i64 sq2, .int .i64 tm2, .int .i64 kd2, .int .i64 tr2, .int .i64 sp2, .int .i64 lk2, .int .i64 gn2, .int .i64 op2, .int .i64 vr2, .int .i64 pe2, .int .i64 bt2] 46
 obtain ⟨w3, V3, Z3, K3, B3⟩ := lay8 w2 [.int .i64 0, .int .i64 0] 118
 rw [Z1] at Z2 K2 B2
 rw [Z2] at Z3 K3 B3
 have HB3 := Lib.hid (show Below w.heap.size w w3 from (B1.trans (B2.mono (by omega))).trans (B3.mono (by omega)))
 have K1 := (K1.up B2 (by omega)).up B3 (by omega)
 have K2 := K2.up B3 (by omega)
 have hlt := World.block_lt_of_cell? w ⟨Bf, 0, none⟩ hF
 have HYY := Lib.hid (show ∀ W, Below w3.heap.size w3 W → W.cell? ⟨w.heap.size, 0, none⟩ = some (.int .i64 (q : Int)) ∧ W.cell? ⟨w.heap.size, 2, none⟩ = some (.int .i64 tm1) ∧ W.cell? ⟨w.heap.size + 1, 2, none⟩ = some (.int .i64 tm2) ∧ W.cell? ⟨Bf, 0, none⟩ = some (.slice (some ⟨eb, eo, none⟩) f.dr.length c1) ∧ W.cell? ⟨eb, eo + q, none⟩ = some (.int .i64 D) from fun W b =>
  have bw := HB3.out.trans (b.mono HB3.out.size)
  ⟨(K1.below b 0 (by simp)).1, (K1.below b 2 (by simp)).1, (K2.below b 2 (by simp)).1, (bw.cell (p := ⟨Bf, 0, none⟩) hlt).trans hF, hc W bw⟩)
 have HK3 := Lib.hid K3
 clear K1 K2 K3 B1 B2 B3 hF hc
 go_enter Tryd.func67, Tryd.ntmps67
 go_upto_region 1 with fail
 clear V1 V2 V3
 refine wp_region_noPanic ?_
 refine wp_region_Kx (C := NewC w3) [12] 12 #[false, false, false, false, false, false, false, false, false, false, false, false, false] (by kernel_rfl) (by kernel_rfl) (by kernel_rfl) (newC0 _) ?_
 intro wx hwx
 refine wpAnyK_ex (i := 0) rfl (by kernel_rfl) (listed' := #[true, false, false, false, false, false, false, false, false, false, false, false, false]) rfl (fun _ _ _ _ _ h => h) hwx ?_
 apply Exists.intro
 refine ⟨⟨by rfl, fun wy hw => ?_⟩, ?_⟩
 · (have bw := hw.below; obtain ⟨f0, f1, f2, f3, f4⟩ := HYY.out _ bw; go_simp; try (first | (with_reducible rfl) | (with_reducible exact ⟨rfl, rfl⟩)))
 try simp only [Act.put]
 refine wpAnyK_ex (i := 1) rfl (by kernel_rfl) (listed' := #[true, true, false, false, false, false, false, false, false, false, false, false, false]) rfl (fun _ _ _ _ _ h => h) hwx ?_
 apply Exists.intro
 refine ⟨⟨by rfl, fun wy hw => ?_⟩, ?_⟩
 · (have bw := hw.below; obtain ⟨f0, f1, f2, f3, f4⟩ := HYY.out _ bw; go_simp; try (first | (with_reducible rfl) | (with_reducible exact ⟨rfl, rfl⟩)))
 try simp only [Act.put]
 refine wpAnyK_ex (i := 2) rfl (by kernel_rfl) (listed' := #[true, true, true, false, false, false, false, false, false, false, false, false, false]) rfl (fun _ _ _ _ _ h => h) hwx ?_
 apply Exists.intro
 refine ⟨⟨by rfl, fun wy hw => ?_⟩, ?_⟩
 · (have bw := hw.below; obtain ⟨f0, f1, f2, f3, f4⟩ := HYY.out _ bw; go_simp; try (first | (with_reducible rfl) | (with_reducible exact ⟨rfl, rfl⟩)))
 try simp only [Act.put]
 refine wpAnyK_ex (i := 3) rfl (by kernel_rfl) (listed' := #[true, true, true, true, false, false, false, false, false, false, false, false, false]) rfl (fun _ _ _ _ _ h => h) hwx ?_
 apply Exists.intro
 refine ⟨⟨by rfl, fun wy hw => ?_⟩, ?_⟩
 · (have bw := hw.below; obtain ⟨f0, f1, f2, f3, f4⟩ := HYY.out _ bw; go_simp; try (first | (with_reducible rfl) | (with_reducible exact ⟨rfl, rfl⟩)))
 try simp only [Act.put]
 refine wpAnyK_ex (i := 4) rfl (by kernel_rfl) (listed' := #[true, true, true, true, true, false, false, false, false, false, false, false, false]) rfl (fun _ _ _ _ _ h => h) hwx ?_
 apply Exists.intro
 refine ⟨⟨by rfl, fun wy hw => ?_⟩, ?_⟩
 · (have bw := hw.below; obtain ⟨f0, f1, f2, f3, f4⟩ := HYY.out _ bw; go_simp; try (first | (with_reducible rfl) | (with_reducible exact ⟨rfl, rfl⟩)))
 try simp only [Act.put]
 refine wpAnyK_ex (i := 5) rfl (by kernel_rfl) (listed' := #[true, true, true, true, true, true, false, false, false, false, false, false, false]) rfl (fun _ _ _ _ _ h => h) hwx ?_
 apply Exists.intro
 refine ⟨⟨by rfl, fun wy hw => ?_⟩, ?_⟩
 · (have bw := hw.below; obtain ⟨f0, f1, f2, f3, f4⟩ := HYY.out _ bw; go_simp; try (first | (with_reducible rfl) | (with_reducible exact ⟨rfl, rfl⟩)))
 try simp only [Act.put]
 refine wpAnyK_ex (i := 6) rfl (by kernel_rfl) (listed' := #[true, true, true, true, true, true, true, false, false, false, false, false, false]) rfl (fun _ _ _ _ _ h => h) hwx ?_
 apply Exists.intro
 refine ⟨⟨by rfl, fun wy hw => ?_⟩, ?_⟩
 · (have bw := hw.below; obtain ⟨f0, f1, f2, f3, f4⟩ := HYY.out _ bw; go_simp; try (first | (with_reducible rfl) | (with_reducible exact ⟨rfl, rfl⟩)))
 try simp only [Act.put]
 refine wpAnyK_ex (i := 7) rfl (by kernel_rfl) (listed' := #[true, true, true, true, true, true, true, true, false, false, false, false, false]) rfl (fun _ _ _ _ _ h => h) hwx ?_
 apply Exists.intro
 refine ⟨⟨by rfl, fun wy hw => ?_⟩, ?_⟩
 · (have bw := hw.below; obtain ⟨f0, f1, f2, f3, f4⟩ := HYY.out _ bw; go_simp; try (first | (with_reducible rfl) | (with_reducible exact ⟨rfl, rfl⟩)))
 try simp only [Act.put]
 refine wpAnyK_ex (i := 8) rfl (by kernel_rfl) (listed' := #[true, true, true, true, true, true, true, true, true, false, false, false, false]) rfl (fun _ _ _ _ _ h => h) hwx ?_
 apply Exists.intro
 refine ⟨⟨by rfl, fun wy hw => ?_⟩, ?_⟩
 · (have bw := hw.below; obtain ⟨f0, f1, f2, f3, f4⟩ := HYY.out _ bw; go_simp; try (first | (with_reducible rfl) | (with_reducible exact ⟨rfl, rfl⟩)))
 try simp only [Act.put]
 refine wpAnyK_ex (i := 9) rfl (by kernel_rfl) (listed' := #[true, true, true, true, true, true, true, true, true, true, false, false, false]) rfl (fun _ _ _ _ _ h => h) hwx ?_
 apply Exists.intro
 refine ⟨⟨by rfl, fun wy hw => ?_⟩, ?_⟩
 · (have bw := hw.below; obtain ⟨f0, f1, f2, f3, f4⟩ := HYY.out _ bw; go_simp; try (first | (with_reducible rfl) | (with_reducible exact ⟨rfl, rfl⟩)))
 try simp only [Act.put]
 refine wpAnyK_ex (i := 10) rfl (by kernel_rfl) (listed' := #[true, true, true, true, true, true, true, true, true, true, true, false, false]) rfl (fun _ _ _ _ _ h => h) hwx ?_
 apply Exists.intro
 refine ⟨⟨by rfl, fun wy hw => ?_⟩, ?_⟩
 · (have bw := hw.below; obtain ⟨f0, f1, f2, f3, f4⟩ := HYY.out _ bw; go_simp; try (first | (with_reducible rfl) | (with_reducible exact ⟨rfl, rfl⟩)))
 try simp only [Act.put]
 have HX := Lib.hid hwx.below
 refine wpAnyK_fork1 11 (by kernel_rfl) ?_
 refine wpOpK_step rfl (by kernel_rfl) (listed' := #[true, true, true, true, true, true, true, true, true, true, true, true, false]) rfl (by rfl) (fun K hK => ?_)
 go_simp
 refine (CE.out _).mono ?_
 rintro e w9 ⟨rfl, hb9⟩
 have H9 := Lib.hid (HX.out.trans (hb9.mono HX.out.size))
 refine hK _ _ H9.out ?_
 clear hK K hb9
 try simp only [Act.put]
 refine wpAnyK_end (by kernel_rfl) ?_
 try simp only [pickOps, List.filterMap_cons, List.filterMap_nil, List.getElem?_toArray, List.getElem?_cons_succ, List.getElem?_cons_zero]
 have K9 := HK3.out.below H9.out
 obtain ⟨g0, g0'⟩ := K9 0 (by simp); obtain ⟨g1, g1'⟩ := K9 1 (by simp)
 simp only [List.getElem_cons_zero, List.getElem_cons_succ] at g0 g1
 obtain ⟨w5, V5, K5, B5⟩ : ∃ w5, (w9.setCell ⟨w.heap.size + 1 + 1, 0, none⟩ (.int .i64 L)).setCell ⟨w.heap.size + 1 + 1, 1, none⟩ (.int .i64 H) = w5 ∧ CellsAt w5 (w.heap.size + 1 + 1) [.int .i64 L, .int .i64 H] ∧ Below w.heap.size w w5 :=
  ⟨_, rfl, (K9.put 0 _).put 1 _, (((HB3.out.trans (H9.out.mono HB3.out.size)).setCell (p := ⟨w.heap.size + 1 + 1, 0, none⟩) (by show _ ≤ _ + 1 + 1; omega) _).setCell (p := ⟨w.heap.size + 1 + 1, 1, none⟩) (by show _ ≤ _ + 1 + 1; omega) _)⟩
 have k0 := (K5 0 (by simp)).1; have k1 := (K5 1 (by simp)).1
 simp only [List.getElem_cons_zero, List.getElem_cons_succ] at k0 k1
 have HB5 := Lib.hid B5
 clear K5 K9 B5
 go_wp2_with fail
 refine NoPanic.normal ?_
 go_wp2_with fail
 exact bodyPost_ret (v := .agg #[.int .i64 L, .int .i64 H]) (by simp [results, Tryd.results67, go_sem, k0, k1]) rfl ⟨rfl, HB5.out⟩
end Go.Proofs.YtamefmojocegkaaDoor

namespace Go.Proofs.YtamefmojocegkaaDoor
open Go Go.Proofs Go.RowKit Go.Lib
structure Rl where
 f1 : Nat
 b1 : Array Value
 f2 : Nat
 b2 : Array Value
def Rl.cells (r : Rl) : List Value := [.func (.func r.f1) #[] r.b1, .func (.func r.f2) #[] r.b2]
def KR : RowK Rl where
 n := 2
 bytes := 16
 et := 116
 st := 82
 zero := .agg #[.nilFunc, .nilFunc]
 cs := Rl.cells
 len := fun _ => rfl
 one := fun x u hu => by
  simp [Rl.cells] at hu
  rcases hu with rfl | rfl <;> rfl
 pos := by decide
 bb := by decide
 und := by kernel_rfl
 elem := by kernel_rfl
 info := by kernel_rfl
 zs := rfl
theorem CellsAt.rnR {W : World} {base g : Nat} {l : List Rl} (h : CellsAt W g (KR.vs l)) (hb : base ≤ g) (hg : g < W.heap.size) : RN KR W base (some ⟨g, 0, none⟩) l := by
 refine .inr ⟨g, 0, rfl, hb, hg, fun i hi j hj => ?_⟩
 have hl := KR.vs_length l
 have hij : KR.n * i + j < (KR.vs l).length := by
  rw [hl]
  have : KR.n * (i + 1) ≤ KR.n * l.length := Nat.mul_le_mul_left _ hi
  rw [Nat.mul_add, Nat.mul_one, Nat.mul_comm KR.n l.length] at this
  omega
 rw [Nat.zero_add, (h _ hij).1, ← KR.vs_get l i j hi hj, List.getElem?_eq_getElem hij]
structure RSem where
 ap : Ev → Ev → Bool
 lo : Ev → Ev → Int
 hi : Ev → Ev → Int
def RlOk (W : World) (good : Ev → Prop) (r : Rl) (s : RSem) : Prop :=
 (∀ args W, (callFunc r.f1 args).run Tryd.prog W = .ok (.enter r.f1 args) W) ∧ (∀ args W, (callFunc r.f2 args).run Tryd.prog W = .ok (.enter r.f2 args) W) ∧
 ∀ W', Below W.heap.size W W' → ∀ a b, good a → good b → Calls Tryd.prog r.f1 (#[a.val, b.val] ++ r.b1) W' (fun e w' => e = .returned (.bool (s.ap a b)) ∧ Below W'.heap.size W' w') ∧ Calls Tryd.prog r.f2 (#[a.val, b.val] ++ r.b2) W' (IvPost W' (s.lo a b) (s.hi a b))
theorem RlOk.below {W W' : World} {good : Ev → Prop} {r : Rl} {s : RSem} (h : RlOk W good r s) (b : Below W.heap.size W W') : RlOk W' good r s :=
 ⟨h.1, h.2.1, fun X hb => h.2.2 X (b.trans (hb.mono b.size))⟩
def Good (f : Fl) (e : Ev) : Prop := evB e = true ∧ e.ag < (f.dr.length : Int)
def nB : Int := 1152921504606846976
def s0S (f : Fl) : RSem := ⟨lateB, fun a b => low8 (f.drOf a.ag) (b.tm - a.tm), fun a b => hiV (f.drOf a.ag) (b.tm - a.tm)⟩
def s1S (f : Fl) : RSem := ⟨msgB, fun _ _ => f.lat, fun _ _ => nB⟩
def s2S : RSem := ⟨grtB, fun _ _ => 0, fun _ _ => nB⟩
def s3S : RSem := ⟨chdB, fun _ _ => 0, fun _ _ => nB⟩
def rlS (f : Fl) : List RSem := [s0S f, s1S f, s2S, s3S]
def RlsOk (W : World) (good : Ev → Prop) (rs : List Rl) (ss : List RSem) : Prop := rs.length = ss.length ∧ ∀ i (h : i < rs.length) (h2 : i < ss.length), RlOk W good rs[i] ss[i]
theorem RlsOk.below {W W' : World} {good : Ev → Prop} {rs : List Rl} {ss : List RSem} (h : RlsOk W good rs ss) (b : Below W.heap.size W W') : RlsOk W' good rs ss := ⟨h.1, fun i h1 h2 => (h.2 i h1 h2).below b⟩
theorem RlsOk.one {W : World} {good : Ev → Prop} {rs : List Rl} {ss : List RSem} (h : RlsOk W good rs ss) : RlsOk W good (rs.take 1) (ss.take 1) := by
 refine ⟨by rw [List.length_take, List.length_take, h.1], fun i h1 h2 => ?_⟩
 rw [List.getElem_take, List.getElem_take]
 exact h.2 i _ _
def RulesPost (w : World) (f : Fl) (e : Ending) (w' : World) : Prop := ∃ g rs, e = .returned (.slice (some ⟨g, 0, none⟩) 4 4) ∧ RL KR w' (some ⟨g, 0, none⟩) rs ∧ RlsOk w' (Good f) rs (rlS f) ∧ Below w.heap.size w w'
theorem rules_u (v : Value) (f : Fl) (w : World) (hf : FlAt w v f) (hfl : flB f = true) : Calls Tryd.prog 45 #[v] w (RulesPost w f) := by
 obtain ⟨x1, c1, x2, c3, x3, c4, rfl, hdr, _, _⟩ := hf
 obtain ⟨w1, V1, Z1, K1, B1⟩ := lay8 w [.slice x1 f.dr.length c1, .int .i64 f.lat, .int .i64 f.lia, .slice x2 f.sv.length c3, .slice x3 f.tm.length c4] 24
 obtain ⟨w2, V2, Z2, K2, B2⟩ := lay8 w1 [.int .i64 f.lat] 3
 obtain ⟨w3, V3, Z3, K3, B3⟩ := lay8 w2 [.int .i64 0] 3
 obtain ⟨w4, V4, Z4, K4, B4⟩ := lay8 w3 [.int .i64 0] 3
 rw [Z1] at Z2 K2 B2
 rw [Z2] at Z3 K3 B3
 rw [Z3] at Z4 K4 B4
 simp only [Nat.add_assoc, Nat.reduceAdd] at Z2 Z3 Z4 K3 K4 B3 B4
 obtain ⟨w5, V5, Z5, K5, B5⟩ := lay8 w4 [.func (.func 66) #[] #[], .func (.func 67) #[] #[.pointer (some ⟨w.heap.size, 0, none⟩)], .func (.func 69) #[] #[], .func (.func 80) #[] #[.pointer (some ⟨w.heap.size + 1, 0, none⟩)], .func (.func 71) #[] #[], .func (.func 80) #[] #[.pointer (some ⟨w.heap.size + 2, 0, none⟩)], .func (.func 72) #[] #[], .func (.func 80) #[] #[.pointer (some ⟨w.heap.size + 3, 0, none⟩)]] 116
 rw [Z4] at Z5 K5 B5
 have F1 := (((K1.up B2 (by omega)).up B3 (by omega)).up B4 (by omega)).up B5 (by omega)
 have F2 := ((K2.up B3 (by omega)).up B4 (by omega)).up B5 (by omega)
 have F3 := (K3.up B4 (by omega)).up B5 (by omega)
 have F4 := K4.up B5 (by omega)
 have HB := Lib.hid (show Below w.heap.size w w5 from B1.trans ((B2.mono (by omega)).trans ((B3.mono (by omega)).trans ((B4.mono (by omega)).trans (B5.mono (by omega))))))
 obtain ⟨y1, _⟩ := K1 1 (by simp)
 simp only [List.getElem_cons_zero, List.getElem_cons_succ] at y1
 have HP := Lib.hid (show RulesPost w f (.returned (.slice (some ⟨w.heap.size + 4, 0, none⟩) 4 4)) w5 from by
  refine ⟨w.heap.size + 4, [⟨66, #[], 67, #[.pointer (some ⟨w.heap.size, 0, none⟩)]⟩, ⟨69, #[], 80, #[.pointer (some ⟨w.heap.size + 1, 0, none⟩)]⟩, ⟨71, #[], 80, #[.pointer (some ⟨w.heap.size + 2, 0, none⟩)]⟩, ⟨72, #[], 80, #[.pointer (some ⟨w.heap.size + 3, 0, none⟩)]⟩], rfl, ?_, ⟨rfl, fun i h1 h2 => ?_⟩, HB.out⟩
  · exact (CellsAt.rnR (l := [_, _, _, _]) (base := w.heap.size) K5 (by omega) (by omega)).rl
  have h4 : i = 0 ∨ i = 1 ∨ i = 2 ∨ i = 3 := by simp at h1; omega
  rcases h4 with rfl | rfl | rfl | rfl
  · refine ⟨by intro args W; rfl, by intro args W; rfl, fun W' hb a b ha hb2 => ⟨isLater_u a b W', ?_⟩⟩
    exact rules1_u a b f w.heap.size x1 c1 W' ((F1.up hb (by omega)) 0 (by simp)).1 (hdr.below (HB.out.trans (hb.mono HB.out.size))) hfl ha.1 hb2.1 ha.2
  · refine ⟨by intro args W; rfl, by intro args W; rfl, fun W' hb a b ha hb2 => ⟨isMessage_u a b W', ?_⟩⟩
    exact atLeast1_u a b f.lat (w.heap.size + 1) W' ((F2.up hb (by omega)) 0 (by simp)).1
  · refine ⟨by intro args W; rfl, by intro args W; rfl, fun W' hb a b ha hb2 => ⟨isGrant_u a b ?_ ?_ W', ?_⟩⟩
    · have := (evB_of ha.1).2.2.2.2.2.2; omega
    · have := (evB_of ha.1).2.2.2.2.2.2; omega
    · exact atLeast1_u a b 0 (w.heap.size + 2) W' ((F3.up hb (by omega)) 0 (by simp)).1
  · refine ⟨by intro args W; rfl, by intro args W; rfl, fun W' hb a b ha hb2 => ⟨isChild_u a b W', ?_⟩⟩
    exact atLeast1_u a b 0 (w.heap.size + 3) W' ((F4.up hb (by omega)) 0 (by simp)).1)
 clear F1 F2 F3 F4 K1 K2 K3 K4 K5 B1 B2 B3 B4 B5 HB hdr
 go_enter Tryd.func45, Tryd.ntmps45
 go_wp2_with (first | (go_at_call 70; refine (atLeast_u _ _).mono ?_; rintro e z ⟨rfl, hz⟩; (first | rw [V2] at hz | rw [V3] at hz | rw [V4] at hz); subst hz))
 go_ret
 exact HP.out
end Go.Proofs.YtamefmojocegkaaDoor
