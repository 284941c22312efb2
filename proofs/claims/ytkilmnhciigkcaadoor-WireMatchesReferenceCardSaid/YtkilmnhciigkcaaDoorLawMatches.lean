/-
  WireMatchesReference returns true for all arguments: the walk.
-/
import Derived.Test.YtkilmnhciigkcaaDoorRef2
import Derived.Test.YtkilmnhciigkcaaDoorLawUnique
import Derived.Test.YtkilmnhciigkcaaDoorLawSumAffine
namespace Go.Proofs.YtkilmnhciigkcaaDoor
open Go Go.Proofs Go.RowKit Go.Lib

theorem same_below {e e' : Ending} {w w' : World} (h : e = e' ∧ w = w') : e = e' ∧ Below w.heap.size w w' := ⟨h.1, h.2 ▸ Below.refl _ _⟩

/-- PutInt and the reference's PutInt return the same. -/
theorem put_both (k : Int) : ∃ (s : ByteArray) (c : Int), ∀ w,
    Calls Tryd.prog 12 #[.int .i64 k] w (fun e w' => e = .returned (.tuple #[.string s, .int .i64 c]) ∧ Below w.heap.size w w') ∧
    Calls Tryd.prog 13 #[.int .i64 k] w (fun e w' => e = .returned (.tuple #[.string s, .int .i64 c]) ∧ Below w.heap.size w w') := by
  by_cases h : k < -4611686018427387903 ∨ 4611686018427387903 < k
  · exact ⟨ByteArray.empty, 10, fun w => ⟨(putInt_no k h w).mono fun _ _ h => h, refPut_no k h w⟩⟩
  · exact ⟨encS k, 0, fun w => ⟨putInt_yes k (by omega) (by omega) w, refPut_yes k (by omega) (by omega) w⟩⟩

/-- Int and String, and the reference's, return the same. -/
theorem get_both (s : ByteArray) (hs : s.size ≤ 300) (k : Int) : ∃ (a x c : Int) (v : ByteArray) (z c2 : Int), ∀ w,
    Calls Tryd.prog 15 #[.string s, .int .i64 k] w (fun e w' => e = .returned (.tuple #[.int .i64 a, .int .i64 x, .int .i64 c]) ∧ Below w.heap.size w w') ∧
    Calls Tryd.prog 16 #[.string s, .int .i64 k] w (fun e w' => e = .returned (.tuple #[.int .i64 a, .int .i64 x, .int .i64 c]) ∧ Below w.heap.size w w') ∧
    Calls Tryd.prog 17 #[.string s, .int .i64 k] w (fun e w' => e = .returned (.tuple #[.string v, .int .i64 z, .int .i64 c2]) ∧ Below w.heap.size w w') ∧
    Calls Tryd.prog 18 #[.string s, .int .i64 k] w (fun e w' => e = .returned (.tuple #[.string v, .int .i64 z, .int .i64 c2]) ∧ Below w.heap.size w w') := by
  have hm : s.size ≤ maxLen := by unfold maxLen; omega
  have h48 : s.size ≤ 281474976710656 := by omega
  by_cases h : k < 0 ∨ (s.size : Int) < k
  · exact ⟨0, 0, 2, ByteArray.empty, 0, 2, fun w => ⟨(int_arg s k h w).mono fun _ _ h => same_below h, (refInt_arg s k h w).mono fun _ _ h => same_below h, (string_arg s k h w).mono fun _ _ h => same_below h, (refString_arg s k h w).mono fun _ _ h => same_below h⟩⟩
  · obtain ⟨p, rfl⟩ : ∃ p : Nat, k = (p : Int) := Int.eq_ofNat_of_zero_le (by omega)
    have hp : p ≤ s.size := by omega
    cases hsc : scan 0 0 (s.data.toList.drop p) with
    | none => exact ⟨0, 0, 10, ByteArray.empty, 0, 10, fun w => ⟨(int_none s hm p hp hsc w).mono fun _ _ h => same_below h, refInt_none s h48 p hp hsc w, (string_none s hm p hp hsc w).mono fun _ _ h => same_below h, refString_none s h48 p hp hsc w⟩⟩
    | some zn =>
      obtain ⟨z, n⟩ := zn
      by_cases hbad : unz z < 0 ∨ 65536 < unz z ∨ (s.size : Int) - ((p : Int) + (n : Int)) < unz z
      · exact ⟨_, _, _, ByteArray.empty, 0, 10, fun w => ⟨(int_some s hm p hp z n hsc w).mono fun _ _ h => same_below h, refInt_some s h48 p hp z n hsc w, (string_bad s hm p hp z n hsc hbad w).mono fun _ _ h => same_below h, refString_bad s h48 p hp z n hsc hbad w⟩⟩
      · obtain ⟨m, hmu⟩ : ∃ m : Nat, unz z = (m : Int) := Int.eq_ofNat_of_zero_le (by omega)
        have h1 : m ≤ 65536 := by omega
        have h2 : p + n + m ≤ s.size := by omega
        exact ⟨_, _, _, _, _, _, fun w => ⟨(int_some s hm p hp z n hsc w).mono fun _ _ h => same_below h, refInt_some s h48 p hp z n hsc w, string_ok s hm p hp z n m hsc hmu h1 h2 w, refString_ok s h48 p hp z n m hsc hmu h1 h2 w⟩⟩

theorem refSum_q (s : ByteArray) (hs : s.size ≤ 1000) (w : World) (n : Nat) :
    Calls Tryd.prog 22 #[.string s] (w.drewN n) fun e w' => e = .returned (.int .i64 ((4294967295 - crcF s.data.toList : Nat) : Int)) ∧ (w.drewN n) = w' :=
  refSum_any s (by unfold maxLen; omega) _

set_option maxRecDepth 100000 in
set_option maxHeartbeats 4000000 in
theorem matches_walk (c : Int) (text : ByteArray) (a : Int) (c0 : -9223372036854775808 ≤ c) (c1 : c ≤ 9223372036854775807) (ht : text.size ≤ maxLen)
    (a0 : -9223372036854775808 ≤ a) (a1 : a ≤ 9223372036854775807) (w : World) (hT : HasTab w) (h0 : 0 < w.heap.size) :
    Calls Tryd.prog 3 #[.int .i64 c, .string text, .int .i64 a] w fun e w' => e = .returned (.bool true) ∧ Below w.heap.size w w' := by
  unfold maxLen at ht
  obtain ⟨m, hm⟩ : ∃ m, m = min text.size 300 := ⟨_, rfl⟩
  have hmn1 : min (text.size : Int) 300 = (m : Int) := by omega
  obtain ⟨r, hr⟩ : ∃ t, text.extract 0 m = t := ⟨_, rfl⟩
  have r2 : r.size ≤ 300 := by rw [← hr]; simp; omega
  have hsl1 := fun w' => slice_to (P := Tryd.prog) 9 Tryd.underlying9 text (m : Int) m rfl (by omega) r hr w'
  clear hm hr
  obtain ⟨x, hx⟩ : ∃ x, numF c = x := ⟨_, rfl⟩
  have HX := Lib.hid hx
  clear hx
  go_enter Tryd.func3, Tryd.ntmps3
  go_wp2_with fail
  refine (sane_any _ hT h0).mono ?_
  rintro e w1 ⟨rfl, b1⟩
  go_wp2_with fail
  refine (number_any c c0 c1 _).mono ?_
  rw [HX.out]
  rintro e w2 ⟨rfl, b2⟩
  have hb2 : Below w.heap.size w w2 := b1.trans (b2.mono b1.size)
  obtain ⟨B, hB⟩ : ∃ B, w2.heap.size = B := ⟨_, rfl⟩
  have hcs := cells2' w2 (.int .i64 c) (.int .i64 x) 3
  have hb3 : Below w.heap.size w (w2.alloc (.cells #[.int .i64 c, .int .i64 x] 3)) := hb2.trans ((Below.refl _ _).alloc hb2.size _)
  rw [hB] at hcs
  have HB := Lib.hid hB
  clear hB
  go_wp2
  obtain ⟨W3, hW3⟩ : ∃ W3, w2.alloc (.cells #[.int .i64 c, .int .i64 x] 3) = W3 := ⟨_, rfl⟩
  rw [hW3] at hcs hb3 ⊢
  rw [HB.out]
  obtain ⟨hc0, hc1⟩ := hcs
  clear hW3
  go_loopw [44] (fun i wr => ∃ k : Nat, k ≤ 2 ∧ i = .int .i64 k ∧ Below w.heap.size w wr ∧ wr.cell? ⟨B, 0, none⟩ = some (.int .i64 c) ∧ wr.cell? ⟨B, 1, none⟩ = some (.int .i64 x)) (fun i _ => 2 - (RowKit.intOf i).toNat)
  case atStart => exact ⟨0, by omega, rfl, hb3, hc0, hc1⟩
  case round =>
    obtain ⟨k, hk, rfl, hbr, hr0, hr1⟩ := hrel
    by_cases hk2 : k < 2
    · obtain ⟨y, hcell⟩ : ∃ y : Int, wr.cell? ⟨B, k, none⟩ = some (.int .i64 y) := by
        have : k = 0 ∨ k = 1 := by omega
        rcases this with rfl | rfl
        · exact ⟨_, hr0⟩
        · exact ⟨_, hr1⟩
      have hBlt : B < wr.heap.size := block_of_cell hr0
      have hk3 : (k : Int) < 2 := by omega
      obtain ⟨es, ec, hput⟩ := put_both y
      have HP := Lib.hid hput
      have HR0 := Lib.hid hr0
      have HR1 := Lib.hid hr1
      clear hr0 hr1 hc0 hc1 hput
      go_wp2_with fail
      refine (HP.out _).1.mono ?_
      rintro e w4 ⟨rfl, b4⟩
      go_wp2_with fail
      refine (HP.out _).2.mono ?_
      rintro e w5 ⟨rfl, b5⟩
      have b := b4.trans (b5.mono b4.size)
      have BC := Lib.hid b
      clear b
      go_wp2
      go_roundw
      case rel => exact ⟨k + 1, by omega, by go_num, hbr.trans (BC.out.mono hbr.size), (BC.out.cell (p := ⟨B, 0, none⟩) hBlt).trans HR0.out, (BC.out.cell (p := ⟨B, 1, none⟩) hBlt).trans HR1.out⟩
      case measure => simp [RowKit.intOf]; omega
    · obtain ⟨wo, hwo⟩ : ∃ wo : World, wo = wr := ⟨_, rfl⟩
      have HBo := Lib.hid hbr
      rw [← hwo] at HBo ⊢
      clear hbr hwo hr0 hr1 hc0 hc1
      obtain ⟨j, hj⟩ : ∃ j, pickI a ((r.size : Int) + 2) = j := ⟨_, rfl⟩
      have HJ := Lib.hid hj
      clear hj
      go_wp2_with fail
      refine (pick_any a ((r.size : Int) + 2) a0 a1 (by omega) (by omega) _).mono ?_
      rw [HJ.out]
      rintro e w3 ⟨rfl, rfl⟩
      obtain ⟨D, hD⟩ : ∃ D, wo.heap.size = D := ⟨_, rfl⟩
      have hcs := cells2' wo (.int .i64 a) (.int .i64 j) 3
      have hb4 : Below w.heap.size w (wo.alloc (.cells #[.int .i64 a, .int .i64 j] 3)) := HBo.out.trans ((Below.refl _ _).alloc HBo.out.size _)
      rw [hD] at hcs
      have HD := Lib.hid hD
      clear hD
      go_wp2
      obtain ⟨W4, hW4⟩ : ∃ W4, wo.alloc (.cells #[.int .i64 a, .int .i64 j] 3) = W4 := ⟨_, rfl⟩
      rw [hW4] at hcs hb4 ⊢
      rw [HD.out]
      obtain ⟨hc0, hc1⟩ := hcs
      clear hW4
      go_loopw [75] (fun i wr => ∃ k : Nat, k ≤ 2 ∧ i = .int .i64 k ∧ Below w.heap.size w wr ∧ wr.cell? ⟨D, 0, none⟩ = some (.int .i64 a) ∧ wr.cell? ⟨D, 1, none⟩ = some (.int .i64 j)) (fun i _ => 2 - (RowKit.intOf i).toNat)
      case atStart => exact ⟨0, by omega, rfl, hb4, hc0, hc1⟩
      case round =>
        obtain ⟨k, hk, rfl, hbr, hr0, hr1⟩ := hrel
        by_cases hk2 : k < 2
        · obtain ⟨y, hcell⟩ : ∃ y : Int, wr.cell? ⟨D, k, none⟩ = some (.int .i64 y) := by
            have : k = 0 ∨ k = 1 := by omega
            rcases this with rfl | rfl
            · exact ⟨_, hr0⟩
            · exact ⟨_, hr1⟩
          have hBlt : D < wr.heap.size := block_of_cell hr0
          have hk3 : (k : Int) < 2 := by omega
          obtain ⟨ga, gx, gc, gv, gz, gc2, hget⟩ := get_both r r2 y
          have HG := Lib.hid hget
          have HR0 := Lib.hid hr0
          have HR1 := Lib.hid hr1
          clear hr0 hr1 hc0 hc1 hget
          go_wp2_with fail
          refine (HG.out _).1.mono ?_
          rintro e w4 ⟨rfl, b4⟩
          go_wp2_with fail
          refine (HG.out _).2.1.mono ?_
          rintro e w5 ⟨rfl, b5⟩
          go_wp2_with fail
          refine (HG.out _).2.2.1.mono ?_
          rintro e w6 ⟨rfl, b6⟩
          go_wp2_with fail
          refine (HG.out _).2.2.2.mono ?_
          rintro e w7 ⟨rfl, b7⟩
          have b67 := b6.trans (b7.mono b6.size)
          have b567 := b5.trans (b67.mono b5.size)
          have b := b4.trans (b567.mono b4.size)
          have BC := Lib.hid b
          clear b b67 b567
          go_wp2
          go_roundw
          case rel => exact ⟨k + 1, by omega, by go_num, hbr.trans (BC.out.mono hbr.size), (BC.out.cell (p := ⟨D, 0, none⟩) hBlt).trans HR0.out, (BC.out.cell (p := ⟨D, 1, none⟩) hBlt).trans HR1.out⟩
          case measure => simp [RowKit.intOf]; omega
        · obtain ⟨wp, hwp⟩ : ∃ wp : World, wp = wr := ⟨_, rfl⟩
          have HBp := Lib.hid hbr
          rw [← hwp] at HBp ⊢
          clear hbr hwp hr0 hr1 hc0 hc1
          go_wp2_with fail
          refine (putString_ok r (by omega) _).mono ?_
          rintro e w4 ⟨rfl, b4⟩
          go_wp2_with fail
          refine (refPutString_ok r (by omega) _).mono ?_
          rintro e w5 ⟨rfl, b5⟩
          have hb5 : Below w.heap.size w w5 := HBp.out.trans ((b4.trans (b5.mono b4.size)).mono HBp.out.size)
          have hT5 : HasTab w5 := hT.below hb5 h0
          have cX := sum_any r (by unfold maxLen; omega) w5 hT5
          have cY := refSum_any r (by unfold maxLen; omega) w5
          obtain ⟨u, hu⟩ : ∃ u, 4294967295 - crcF r.data.toList = u := ⟨_, rfl⟩
          rw [hu] at cX cY
          obtain ⟨E, hE⟩ : ∃ E, encS (r.size : Int) ++ r = E := ⟨_, rfl⟩
          rw [hE]
          have CX := Lib.hid cX; have CY := Lib.hid cY
          clear cX cY hu hE
          go_wp2_with fail
          refine CX.out.mono ?_
          rintro e w6 ⟨rfl, rfl⟩
          go_wp2_with fail
          refine CY.out.mono ?_
          rintro e w6 ⟨rfl, rfl⟩
          go_wp2
          go_ret
          exact ⟨rfl, hb5⟩
end Go.Proofs.YtkilmnhciigkcaaDoor
