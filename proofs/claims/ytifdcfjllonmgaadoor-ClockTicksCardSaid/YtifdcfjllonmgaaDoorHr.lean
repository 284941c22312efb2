/-
  Layer 8: the contract of the reference's Fleet.
-/
import Derived.Test.YtifdcfjllonmgaaDoorHq
import Derived.Test.YtifdcfjllonmgaaDoorHo
namespace Go.Proofs.YtifdcfjllonmgaaDoor
open Go Go.Proofs Go.RowKit Go.Lib

def latT (k : Int) : Int := if k = 0 then 0 else if k = 1 then 1 else if k = 2 then 500000 else 1000000
def driT (k : Int) : Int := if k = 0 then 0 else if k = 1 then 1 else if k = 2 then 200 else 1000
def agN (n : Int) : Nat := 2 + (pick8 (n.tdiv 4) 3).toNat
def driN (n : Int) (m : Nat) : List Int := (List.range m).map fun i => driT (pick8 (n.tdiv 12 + (i : Nat)) 4)
def fleetN (n : Int) : Fl := ⟨driN n (agN n), latT (pick8 n 4), pick8 (n.tdiv 48) (if 3 ≤ agN n then 3 else 2), [0, 1, 2, 0, 1, 2], [0, 1, 1]⟩
theorem driN_step (n : Int) (m : Nat) : driN n (m + 1) = driN n m ++ [driT (pick8 (n.tdiv 12 + (m : Nat)) 4)] := by unfold driN; rw [List.range_succ, List.map_append]; rfl
theorem driN_len (n : Int) (m : Nat) : (driN n m).length = m := by unfold driN; simp
theorem driT_bd (k : Int) : 0 ≤ driT k ∧ driT k ≤ 1000 := by unfold driT; repeat' split <;> omega
theorem agN_bd (n : Int) : 2 ≤ agN n ∧ agN n ≤ 4 := by
  unfold agN
  have h1 := pick8_lo (c := n.tdiv 4) (n := 3) (by decide)
  have h2 := pick8_hi (c := n.tdiv 4) (n := 3) (by decide)
  omega
theorem tdiv8 {n : Int} (h0 : -9223372036854775808 ≤ n) (h1 : n ≤ 9223372036854775807) (k : Int) (hk : 2 ≤ k) : -4611686018427387904 ≤ n.tdiv k ∧ n.tdiv k ≤ 4611686018427387904 := by
  have e : k * n.tdiv k + n.tmod k = n := Int.mul_tdiv_add_tmod n k
  rcases Int.le_total 0 n with h | h
  · have a1 := Int.tdiv_nonneg h (show 0 ≤ k by omega)
    have a2 := Int.tmod_nonneg k h
    have a3 : 2 * n.tdiv k ≤ k * n.tdiv k := Int.mul_le_mul_of_nonneg_right hk a1
    omega
  · have e2 : n.tdiv k = -((-n).tdiv k) := by rw [Int.neg_tdiv, Int.neg_neg]
    have a1 := Int.tdiv_nonneg (show 0 ≤ -n by omega) (show 0 ≤ k by omega)
    have a2 := Int.tmod_nonneg k (show 0 ≤ -n by omega)
    have e3 : k * (-n).tdiv k + (-n).tmod k = -n := Int.mul_tdiv_add_tmod (-n) k
    have a3 : 2 * (-n).tdiv k ≤ k * (-n).tdiv k := Int.mul_le_mul_of_nonneg_right hk a1
    omega
theorem wrapq8 {x : Int} (h : -9223372036854775808 ≤ x ∧ x ≤ 9223372036854775807) : IntKind.i64.wrap x = x := IntWalk.i64_in _ (by omega)
/-- A fleet in new blocks. -/
def FlPost (w : World) (f : Fl) (e : Ending) (w' : World) : Prop := ∃ a1 c1 a2 c2 a3 c3, e = .returned (.agg #[.slice a1 f.dr.length c1, .int .i64 f.lat, .int .i64 f.lia, .slice a2 f.sv.length c2, .slice a3 f.tm.length c3]) ∧ RN KI w' w.heap.size a1 f.dr ∧ RN KI w' w.heap.size a2 f.sv ∧ RN KI w' w.heap.size a3 f.tm ∧ Below w.heap.size w w'
theorem CellsAt.rn {W : World} {base g : Nat} {l : List Int} (h : CellsAt W g (KI.vs l)) (hb : base ≤ g) (hg : g < W.heap.size) : RN KI W base (some ⟨g, 0, none⟩) l := by
  refine .inr ⟨g, 0, rfl, hb, hg, fun i hi j hj => ?_⟩
  have hj0 : j = 0 := by have : KI.n = 1 := rfl; omega
  subst hj0
  have hl : (KI.vs l).length = l.length := by rw [KI.vs_length]; show l.length * 1 = _; omega
  have e : 0 + KI.n * i + 0 = i := by show 0 + 1 * i + 0 = i; omega
  rw [e, (h i (by omega)).1]
  have := KI.vs_get l i 0 hi (by decide)
  rw [show KI.n * i + 0 = i by show 1 * i + 0 = i; omega, List.getElem?_eq_getElem (by omega)] at this
  exact this
theorem lit4 {W : World} {T : Nat} {a b c d : Value} (h : CellsAt W T [a, b, c, d]) (q : Nat) (hq : q < 4) : W.cell? ⟨T, q, none⟩ = some ([a, b, c, d][q]'(by simpa using hq)) := (h q (by simpa using hq)).1
theorem at_lit4 (g c : Nat) (q : Nat) (hq : q < 4) (w : World) : (Instr.indexAt 22 (.slice (some ⟨g, 0, none⟩) 4 c) (.int .i64 (q : Int))).run Tryd.prog w = .ok (.pointer (some ⟨g, q, none⟩)) w := by
  have := at_int8 g 0 4 c q hq w
  rwa [Nat.zero_add] at this
theorem latT_lit (q : Nat) (hq : q < 4) : ([Value.int .i64 0, .int .i64 1, .int .i64 500000, .int .i64 1000000][q]'(by simpa using hq)) = .int .i64 (latT q) := by
  have h : q = 0 ∨ q = 1 ∨ q = 2 ∨ q = 3 := by omega
  rcases h with rfl | rfl | rfl | rfl <;> rfl
theorem driT_lit (q : Nat) (hq : q < 4) : ([Value.int .i64 0, .int .i64 1, .int .i64 200, .int .i64 1000][q]'(by simpa using hq)) = .int .i64 (driT q) := by
  have h : q = 0 ∨ q = 1 ∨ q = 2 ∨ q = 3 := by omega
  rcases h with rfl | rfl | rfl | rfl <;> rfl
theorem fl_done8 {w wr : World} {B : Nat} {ad : Option Addr} {k cp : Nat} {lat lia : Int} {dr : List Int} (hrn : RN KI wr (B + 5) ad dr)
    (hs : CellsAt wr (B + 2) [.int .i64 0, .int .i64 1, .int .i64 2, .int .i64 0, .int .i64 1, .int .i64 2]) (ht : CellsAt wr (B + 3) [.int .i64 0, .int .i64 1, .int .i64 1])
    (hr : CellsAt wr B [.slice none 0 0, .int .i64 0, .int .i64 0, .slice none 0 0, .slice none 0 0]) (hb : Below B w wr) (hz : B + 5 ≤ wr.heap.size) :
    ∃ WF, WF = ((((((wr.setCell ⟨B + 4, 2, none⟩ (.int .i64 lia)).setCell ⟨B, 0, none⟩ (.slice ad k cp)).setCell ⟨B, 1, none⟩ (.int .i64 lat)).setCell ⟨B, 2, none⟩ (.int .i64 lia)).setCell ⟨B, 3, none⟩ (.slice (some ⟨B + 2, 0, none⟩) 6 6)).setCell ⟨B, 4, none⟩ (.slice (some ⟨B + 3, 0, none⟩) 3 3)) ∧
    CellsAt WF B [.slice ad k cp, .int .i64 lat, .int .i64 lia, .slice (some ⟨B + 2, 0, none⟩) 6 6, .slice (some ⟨B + 3, 0, none⟩) 3 3] ∧
    RN KI WF B ad dr ∧ RN KI WF B (some ⟨B + 2, 0, none⟩) [0, 1, 2, 0, 1, 2] ∧ RN KI WF B (some ⟨B + 3, 0, none⟩) [0, 1, 1] ∧ Below B w WF := by
  refine ⟨_, rfl, ?_, ?_, ?_, ?_, ?_⟩
  · exact (((((hr.far (A := B + 4) (by omega)).put 0 _).put 1 _).put 2 _).put 3 _).put 4 _
  · exact ((((((hrn.far (by omega)).far (by omega)).far (by omega)).far (by omega)).far (by omega)).far (by omega)).base (by omega)
  · exact CellsAt.rn (l := [0, 1, 2, 0, 1, 2]) ((((((hs.far (by omega)).far (by omega)).far (by omega)).far (by omega)).far (by omega)).far (by omega)) (by omega) (by simp; omega)
  · exact CellsAt.rn (l := [0, 1, 1]) ((((((ht.far (by omega)).far (by omega)).far (by omega)).far (by omega)).far (by omega)).far (by omega)) (by omega) (by simp; omega)
  · exact (((((hb.setCell (by simp) _).setCell (by simp) _).setCell (by simp) _).setCell (by simp) _).setCell (by simp) _).setCell (by simp) _
set_option maxRecDepth 100000 in
set_option maxHeartbeats 8000000 in
theorem fleetR_any (n : Int) (h0 : -9223372036854775808 ≤ n) (h1 : n ≤ 9223372036854775807) (w : World) :
    Calls Tryd.prog 34 #[.int .i64 n] w (FlPost w (fleetN n)) := by
  have p0 := pick8_lo (c := n) (n := 4) (by decide)
  have p1 := pick8_hi (c := n) (n := 4) (by decide)
  obtain ⟨q, hq⟩ := Int.eq_ofNat_of_zero_le p0
  have hq4 : q < 4 := by omega
  have q4 := tdiv8 h0 h1 4 (by decide)
  have q12 := tdiv8 h0 h1 12 (by decide)
  have q48 := tdiv8 h0 h1 48 (by decide)
  have hw4 := wrapq8 (x := n.tdiv 4) (by omega)
  have hw12 := wrapq8 (x := n.tdiv 12) (by omega)
  have hw48 := wrapq8 (x := n.tdiv 48) (by omega)
  have HP := Lib.hid (fun W => pickR8_any n 4 h0 h1 (by decide) (by decide) W)
  have HP3 := Lib.hid (fun W => pickR8_any (n.tdiv 4) 3 (by omega) (by omega) (by decide) (by decide) W)
  have HP4 := Lib.hid (fun (i : Nat) (hi : i ≤ 4) W => pickR8_any (n.tdiv 12 + (i : Nat)) 4 (by omega) (by omega) (by decide) (by decide) W)
  have HPL := Lib.hid (fun (k : Int) (hk : 2 ≤ k) (hk2 : k ≤ 3) W => pickR8_any (n.tdiv 48) k (by omega) (by omega) (by omega) (by omega) W)
  obtain ⟨b3, hb3⟩ : ∃ b3 : Int, (if 3 ≤ agN n then (3 : Int) else 2) = b3 := ⟨_, rfl⟩
  have HFL : fleetN n = ⟨driN n (agN n), latT q, pick8 (n.tdiv 48) b3, [0, 1, 2, 0, 1, 2], [0, 1, 1]⟩ := by unfold fleetN; rw [hq, hb3]
  rw [hq] at HP
  have d0 := pick8_lo (c := n.tdiv 4) (n := 3) (by decide)
  have d1 := pick8_hi (c := n.tdiv 4) (n := 3) (by decide)
  obtain ⟨d, hd⟩ := Int.eq_ofNat_of_zero_le d0
  rw [hd] at HP3 d1
  have HM : agN n = 2 + d := by unfold agN; rw [hd]; rfl
  rw [HFL, HM]
  rw [HM] at hb3
  have HB3 := Lib.hid hb3
  clear hb3
  have hd2 : d ≤ 2 := by omega
  have HWR := Lib.hid (fun (i : Nat) (hi : i ≤ 4) => (wrapq8 (x := n.tdiv 12 + (i : Nat)) (by omega)))
  clear hd d0 d1 HM HFL hq p0 p1 q4 q12 q48
  obtain ⟨w1, V1, Z1, K1, B1⟩ := lay8 w [.slice none 0 0, .int .i64 0, .int .i64 0, .slice none 0 0, .slice none 0 0] 24
  obtain ⟨w2, V2, Z2, K2, B2⟩ := lay8 w1 [.int .i64 0, .int .i64 1, .int .i64 500000, .int .i64 1000000] 3
  obtain ⟨w3, V3, Z3, K3, B3⟩ := lay8 w2 [.int .i64 0, .int .i64 1, .int .i64 2, .int .i64 0, .int .i64 1, .int .i64 2] 3
  obtain ⟨w4, V4, Z4, K4, B4⟩ := lay8 w3 [.int .i64 0, .int .i64 1, .int .i64 1] 3
  obtain ⟨w5, V5, Z5, K5, B5⟩ := lay8 w4 [.slice none 0 0, .int .i64 (latT q), .int .i64 0, .slice (some ⟨w.heap.size + 2, 0, none⟩) 6 6, .slice (some ⟨w.heap.size + 3, 0, none⟩) 3 3] 24
  rw [Z1] at Z2 K2 B2
  rw [Z2] at Z3 K3 B3
  rw [Z3] at Z4 K4 B4
  rw [Z4] at Z5 K5 B5
  simp only [Nat.add_assoc, Nat.reduceAdd] at Z2 Z3 Z4 Z5 K3 K4 K5 B3 B4 B5
  have hT := (lit4 K2 q hq4).trans (congrArg some (latT_lit q hq4))
  have hik := fun W => at_lit4 (w.heap.size + 1) 4 q hq4 W
  clear hq4
  go_enter Tryd.func34, Tryd.ntmps34
  go_wp2_with fail
  refine (HP.out _).mono ?_
  rintro e z ⟨rfl, rfl⟩
  go_wp2_with fail

  have HF5 := Lib.hid K5
  have HB5 := Lib.hid (show Below w.heap.size w w5 from B1.trans ((B2.mono (by omega)).trans ((B3.mono (by omega)).trans ((B4.mono (by omega)).trans (B5.mono (by omega))))))
  have HS35 := Lib.hid (show CellsAt w5 (w.heap.size + 2) [.int .i64 0, .int .i64 1, .int .i64 2, .int .i64 0, .int .i64 1, .int .i64 2] from (K3.up B4 (by omega)).up B5 (by omega))
  have HS45 := Lib.hid (show CellsAt w5 (w.heap.size + 3) [.int .i64 0, .int .i64 1, .int .i64 1] from K4.up B5 (by omega))
  have HR5 := Lib.hid (show CellsAt w5 w.heap.size [.slice none 0 0, .int .i64 0, .int .i64 0, .slice none 0 0, .slice none 0 0] from (((K1.up B2 (by omega)).up B3 (by omega)).up B4 (by omega)).up B5 (by omega))
  clear V1 V2 V3 V4 V5 K1 K2 K3 K4 K5 B1 B2 B3 B4 B5 Z1 Z2 Z3 Z4 hT hik HP
  go_loopw [4] (fun i wr => ∃ k : Nat, k ≤ 2 + d ∧ i = .int .i64 k ∧ Hid (∃ v, Own KI wr (w.heap.size + 5) v (driN n k) ∧ CellsAt wr (w.heap.size + 4) [v, .int .i64 (latT q), .int .i64 0, .slice (some ⟨w.heap.size + 2, 0, none⟩) 6 6, .slice (some ⟨w.heap.size + 3, 0, none⟩) 3 3]) ∧ Hid (Below (w.heap.size + 4) w5 wr)) (fun i _ => 2 + d - (RowKit.intOf i).toNat)
  case atStart => exact ⟨0, Nat.zero_le _, rfl, Lib.hid ⟨_, Own.nil _ _ _, HF5.out⟩, Lib.hid (Below.refl _ _)⟩
  case round =>
    obtain ⟨k, hk, rfl, HX, HB⟩ := hrel
    obtain ⟨v, HO, HC⟩ := HX.out
    clear HX
    have HO := Lib.hid HO
    have HC := Lib.hid HC
    have hz : w.heap.size + 5 ≤ wr.heap.size := by have := HB.out.size; omega
    by_cases hlt : k < 2 + d
    · have hki : (k : Int) < 2 + (d : Int) := by omega
      have HLT := Lib.hid hlt
      have e0 := pick8_lo (c := n.tdiv 12 + (k : Nat)) (n := 4) (by decide)
      have e1 := pick8_hi (c := n.tdiv 12 + (k : Nat)) (n := 4) (by decide)
      obtain ⟨q2, hq2⟩ := Int.eq_ofNat_of_zero_le e0
      have hq24 : q2 < 4 := by omega
      have HPK := Lib.hid (HP4.out k (by omega))
      have hwk := HWR.out k (by omega)
      rw [hq2] at HPK
      have HST := Lib.hid (show driN n (k + 1) = driN n k ++ [driT q2] by rw [driN_step, hq2])
      have HLN := Lib.hid (show (driN n k).length + 1 ≤ 100000000 by rw [driN_len]; omega)
      clear hq2 e0 e1 hlt
      go_upto_region 5 with ((go_at_call 38; refine (HP3.out _).mono ?_; rintro e z ⟨rfl, rfl⟩))
      refine wp_region_noPanic ?_
      refine wp_region_four (C := Grew wr) [] [0, 1, 3, 4, 5, 6, 7] [2, 8, 9, 10] [11, 12, 13] (by kernel_rfl) (by kernel_rfl) (fun _ _ _ _ _ h => h) (grew0 _) ?_
      simp only [pickOps, List.filterMap_cons, List.filterMap_nil, List.getElem?_toArray, List.getElem?_cons_succ, List.getElem?_cons_zero]
      refine wpPure_nil ?_
      refine wpHead_ex ?_
      apply Exists.intro
      refine ⟨⟨by rfl, fun wx hw => ?_⟩, ?_⟩
      · (have B := hw.below; have c0 := (show wx.cell? ⟨w.heap.size + 4, 0, none⟩ = some v from (HC.out.below B 0 (by simp)).1); go_simp; try (first | (with_reducible rfl) | (with_reducible exact ⟨rfl, rfl⟩)))
      try simp only [Act.put, List.setIfInBounds_toArray, List.set_cons_zero, List.set_cons_succ]
      refine wpHead_ex ?_
      apply Exists.intro
      refine ⟨⟨by rfl, fun wx hw => ?_⟩, ?_⟩
      · (have B := hw.below; have c0 := (show wx.cell? ⟨w.heap.size + 4, 0, none⟩ = some v from (HC.out.below B 0 (by simp)).1); go_simp; try (first | (with_reducible rfl) | (with_reducible exact ⟨rfl, rfl⟩)))
      try simp only [Act.put, List.setIfInBounds_toArray, List.set_cons_zero, List.set_cons_succ]
      refine wpHead_ex ?_
      apply Exists.intro
      refine ⟨⟨by rfl, fun wx hw => ?_⟩, ?_⟩
      · (have B := hw.below; have c0 := (show wx.cell? ⟨w.heap.size + 4, 0, none⟩ = some v from (HC.out.below B 0 (by simp)).1); go_simp; try (first | (with_reducible rfl) | (with_reducible exact ⟨rfl, rfl⟩)))
      try simp only [Act.put, List.setIfInBounds_toArray, List.set_cons_zero, List.set_cons_succ]
      refine wpHead_ex ?_
      apply Exists.intro
      refine ⟨⟨by rfl, fun wx hw => ?_⟩, ?_⟩
      · (have B := hw.below; have c0 := (show wx.cell? ⟨w.heap.size + 4, 0, none⟩ = some v from (HC.out.below B 0 (by simp)).1); go_simp; try (first | (with_reducible rfl) | (with_reducible exact ⟨rfl, rfl⟩)))
      try simp only [Act.put, List.setIfInBounds_toArray, List.set_cons_zero, List.set_cons_succ]
      refine wpHead_ex ?_
      apply Exists.intro
      refine ⟨⟨by rfl, fun wx hw => ?_⟩, ?_⟩
      · (have B := hw.below; have c0 := (show wx.cell? ⟨w.heap.size + 4, 0, none⟩ = some v from (HC.out.below B 0 (by simp)).1); go_simp; try (first | (with_reducible rfl) | (with_reducible exact ⟨rfl, rfl⟩)))
      try simp only [Act.put, List.setIfInBounds_toArray, List.set_cons_zero, List.set_cons_succ]
      refine wpHead_ex ?_
      apply Exists.intro
      refine ⟨⟨by rfl, fun wx hw => ?_⟩, ?_⟩
      · (have B := hw.below; have c0 := (show wx.cell? ⟨w.heap.size + 4, 0, none⟩ = some v from (HC.out.below B 0 (by simp)).1); go_simp; try (first | (with_reducible rfl) | (with_reducible exact ⟨rfl, rfl⟩)))
      try simp only [Act.put, List.setIfInBounds_toArray, List.set_cons_zero, List.set_cons_succ]
      refine wpHead_callx ?_
      apply Exists.intro
      apply Exists.intro
      apply Exists.intro
      refine ⟨⟨by rfl, fun wx hw => ?_, fun wx hw => ?_⟩, ?_⟩
      · (go_simp; try (first | (with_reducible rfl) | (with_reducible exact ⟨rfl, rfl⟩)))
      · (exact (HPK.out wx).mono (fun e w2 h => ⟨h.1, h.2.symm⟩))
      try simp only [Act.put, List.setIfInBounds_toArray, List.set_cons_zero, List.set_cons_succ]
      refine wpHead_nil ?_
      intro wx hwx
      have Bwx := Lib.hid hwx.below
      obtain ⟨w6, V6, Z6, K6, B6⟩ := lay8 wx [.int .i64 0, .int .i64 1, .int .i64 200, .int .i64 1000] 3
      obtain ⟨w7, V7, Z7, K7, B7⟩ := lay8 w6 [.int .i64 (driT q2)] 3
      have g6 : Grew wr w6 := by rw [← V6]; exact hwx.alloc _
      have g7 : Grew wr w7 := by rw [← V7]; exact g6.alloc _
      have hT2 := (lit4 K6 q2 hq24).trans (congrArg some (driT_lit q2 hq24))
      have hik2 := fun W => at_lit4 wx.heap.size 4 q2 hq24 W
      refine wpMid_step (by rfl) (fun K hK => ?_)
      go_simp
      refine hK _ _ (g6) ?_
      clear hK K
      try simp only [Act.put, List.setIfInBounds_toArray, List.set_cons_zero, List.set_cons_succ]
      refine wpMid_step (by rfl) (fun K hK => ?_)
      go_simp
      refine hK _ _ (g6) ?_
      clear hK K
      try simp only [Act.put, List.setIfInBounds_toArray, List.set_cons_zero, List.set_cons_succ]
      refine wpMid_step (by rfl) (fun K hK => ?_)
      go_simp
      refine hK _ _ (g6) ?_
      clear hK K
      try simp only [Act.put, List.setIfInBounds_toArray, List.set_cons_zero, List.set_cons_succ]
      refine wpMid_step (by rfl) (fun K hK => ?_)
      go_simp
      refine hK _ _ (g7) ?_
      clear hK K
      try simp only [Act.put, List.setIfInBounds_toArray, List.set_cons_zero, List.set_cons_succ]
      refine wpMid_nil ?_
      have H7 := Lib.hid g7.below
      have HK7 := Lib.hid (show CellsAt w7 (wx.heap.size + 1) (KI.cs (driT q2)) by rw [← Z6]; exact K7)
      clear V6 V7 K6 K7 B6 B7 Z6 hT2 hik2 g6 g7 hwx Bwx
      refine walk_push8 KI (w0 := w7) rfl _ _ rfl (w.heap.size + 5) v (driN n k) (driT q2) rfl (HO.out.below H7.out (Nat.le_refl _)) (Below.refl _ _) (by have := H7.out.size; omega) (wx.heap.size + 1) 1 rfl HK7.out HLN.out ?_
      intro v8 w8 ho8 hb8 hg8 _
      obtain ⟨ad8, cp8, e8, hcp8⟩ := ho8.form
      generalize (driN n k ++ [driT q2]).length = L8 at e8 hcp8
      subst e8
      have HO8 := Lib.hid ho8
      have HB8 := Lib.hid (show Below (w.heap.size + 4) w5 w8 from HB.out.trans ((H7.out.mono (by omega)).trans (hb8.mono (by omega))))
      have HC8 := Lib.hid ((HC.out.below H7.out).up hb8 (by omega))
      have hz8 : w.heap.size + 5 ≤ w8.heap.size := by have := hb8.size; have := H7.out.size; omega
      have c8 := (HC8.out 0 (by simp))
      obtain ⟨c80, c81⟩ := c8
      have hne : (Value.slice ad8 L8 cp8).ownBlock ≠ some (w.heap.size + 4) := fun e => by have := (HO8.out.ge _ e).1; omega
      clear ho8 hb8 hg8
      go_wp2_with fail
      refine NoPanic.normal ?_
      go_wp2_with fail
      go_roundw
      case rel => exact ⟨k + 1, HLT.out, by go_num, Lib.hid ⟨_, by rw [HST.out]; exact HO8.out.far hne, HC8.out.put 0 _⟩, Lib.hid (HB8.out.setCell (Nat.le_refl _) _)⟩
      case measure => have h9 := HLT.out; simp [RowKit.intOf]; omega
    · have hkk : k = 2 + d := by omega
      have HKK := Lib.hid hkk
      have hki : ¬ (k : Int) < 2 + (d : Int) := by omega
      have hki2 : decide ((k : Int) < 2 + (d : Int)) = false := decide_eq_false hki
      obtain ⟨ad, cp, rfl, hcp, hrn⟩ := HO.out.rn
      have HRN := Lib.hid hrn
      have HCP := Lib.hid hcp
      clear hcp hrn HO
      have hdl := driN_len n k
      rw [hdl] at HC
      have HDL := Lib.hid hdl
      have hmn : min (3 : Int) (k : Int) = b3 := by rw [← HB3.out]; split <;> omega
      have HPX := Lib.hid (HPL.out b3 (by omega) (by omega))
      clear hkk hlt
      have hc := HC.out
      have x0 := hc 0 (by simp); have x1 := hc 1 (by simp); have x2 := hc 2 (by simp); have x3 := hc 3 (by simp); have x4 := hc 4 (by simp)
      have hr := HR5.out.up (show Below (w.heap.size + 1) w5 wr from HB.out.mono (by omega)) (by omega)
      have r0 := hr 0 (by simp); have r1 := hr 1 (by simp); have r2 := hr 2 (by simp); have r3 := hr 3 (by simp); have r4 := hr 4 (by simp)
      obtain ⟨x01, x02⟩ := x0; obtain ⟨x11, x12⟩ := x1; obtain ⟨x21, x22⟩ := x2; obtain ⟨x31, x32⟩ := x3; obtain ⟨x41, x42⟩ := x4
      obtain ⟨r01, r02⟩ := r0; obtain ⟨r11, r12⟩ := r1; obtain ⟨r21, r22⟩ := r2; obtain ⟨r31, r32⟩ := r3; obtain ⟨r41, r42⟩ := r4
      have HDN := Lib.hid (fun lia : Int => fl_done8 (k := k) (cp := cp) (lat := latT q) (lia := lia) HRN.out (HS35.out.up HB.out (by omega)) (HS45.out.up HB.out (by omega)) hr (HB5.out.trans (HB.out.mono (by omega))) hz)
      clear hc hr hdl
      go_upto_region 6 with (first | ((go_at_call 38; refine (HP3.out _).mono ?_; rintro e z ⟨rfl, rfl⟩)))
      go_wp2_with fail
      case inl =>
                  obtain rfl : b3 = (k : Int) := by omega
                  refine (HPX.out _).mono ?_
                  rintro e z ⟨rfl, rfl⟩
                  go_wp2_with fail
                  obtain ⟨WF, hWF, k1, k2, k3, k4, k5⟩ := HDN.out (pick8 (n.tdiv 48) (k : Int))
                  rw [← hWF]
                  have K2 := Lib.hid k2; have K3 := Lib.hid k3; have K4 := Lib.hid k4; have K5 := Lib.hid k5
                  obtain ⟨g0, _⟩ := k1 0 (by simp); obtain ⟨g1, _⟩ := k1 1 (by simp); obtain ⟨g2, _⟩ := k1 2 (by simp); obtain ⟨g3, _⟩ := k1 3 (by simp); obtain ⟨g4, _⟩ := k1 4 (by simp)
                  clear k1 k2 k3 k4 k5 hWF r01 r02 r11 r12 r21 r22 r31 r32 r41 r42
                  simp only [List.getElem_cons_zero, List.getElem_cons_succ] at g0 g1 g2 g3 g4
                  exact bodyPost_ret (v := .agg #[.slice ad k cp, .int .i64 (latT q), .int .i64 (pick8 (n.tdiv 48) (k : Int)), .slice (some ⟨w.heap.size + 2, 0, none⟩) 6 6, .slice (some ⟨w.heap.size + 3, 0, none⟩) 3 3]) (by simp [results, Tryd.results34, go_sem, g0, g1, g2, g3, g4]) rfl
                    ⟨ad, cp, _, _, _, _, by rw [← HKK.out, HDL.out]; rfl, by rw [← HKK.out]; exact K2.out, K3.out, K4.out, K5.out⟩
      case inr =>
                  obtain rfl : b3 = 3 := by omega
                  refine (HPX.out _).mono ?_
                  rintro e z ⟨rfl, rfl⟩
                  go_wp2_with fail
                  obtain ⟨WF, hWF, k1, k2, k3, k4, k5⟩ := HDN.out (pick8 (n.tdiv 48) 3)
                  rw [← hWF]
                  have K2 := Lib.hid k2; have K3 := Lib.hid k3; have K4 := Lib.hid k4; have K5 := Lib.hid k5
                  obtain ⟨g0, _⟩ := k1 0 (by simp); obtain ⟨g1, _⟩ := k1 1 (by simp); obtain ⟨g2, _⟩ := k1 2 (by simp); obtain ⟨g3, _⟩ := k1 3 (by simp); obtain ⟨g4, _⟩ := k1 4 (by simp)
                  clear k1 k2 k3 k4 k5 hWF r01 r02 r11 r12 r21 r22 r31 r32 r41 r42
                  simp only [List.getElem_cons_zero, List.getElem_cons_succ] at g0 g1 g2 g3 g4
                  exact bodyPost_ret (v := .agg #[.slice ad k cp, .int .i64 (latT q), .int .i64 (pick8 (n.tdiv 48) 3), .slice (some ⟨w.heap.size + 2, 0, none⟩) 6 6, .slice (some ⟨w.heap.size + 3, 0, none⟩) 3 3]) (by simp [results, Tryd.results34, go_sem, g0, g1, g2, g3, g4]) rfl
                    ⟨ad, cp, _, _, _, _, by rw [← HKK.out, HDL.out]; rfl, by rw [← HKK.out]; exact K2.out, K3.out, K4.out, K5.out⟩
end Go.Proofs.YtifdcfjllonmgaaDoor
