/-
  DigestSumMatchesReference returns true for all arguments: the walk.
-/
import Derived.Test.YtoaaelnmbpmbeaaDoorRefHash
import Derived.Test.YtoaaelnmbpmbeaaDoorLawSplit
namespace Go.Proofs.YtoaaelnmbpmbeaaDoor
open Go Go.Proofs Go.RowKit Go.Lib

set_option maxRecDepth 100000 in
set_option maxHeartbeats 4000000 in
theorem sum_walk (s0 t0 : ByteArray) (hs0 : s0.size ≤ maxLen) (ht0 : t0.size ≤ maxLen) (w : World) (hR : Ready w) :
    Calls Tryd.prog 3 #[.string s0, .string t0] w fun e w' => e = .returned (.bool true) ∧ Below w.heap.size w w' := by
  unfold maxLen at hs0 ht0
  have HR := Lib.hid hR
  clear hR
  obtain ⟨m, hm⟩ : ∃ m, m = min s0.size 500 := ⟨_, rfl⟩
  have hmn1 : min (s0.size : Int) 500 = (m : Int) := by omega
  have hmn2 : (if (500 : Int) < (s0.size : Int) then (500 : Int) else (s0.size : Int)) = (m : Int) := by split <;> omega
  obtain ⟨n, hn⟩ : ∃ m, m = min t0.size 500 := ⟨_, rfl⟩
  have hnn1 : min (t0.size : Int) 500 = (n : Int) := by omega
  have hnn2 : (if (500 : Int) < (t0.size : Int) then (500 : Int) else (t0.size : Int)) = (n : Int) := by split <;> omega
  obtain ⟨S, hS⟩ : ∃ C, s0.extract 0 m = C := ⟨_, rfl⟩
  obtain ⟨T, hT⟩ : ∃ C, t0.extract 0 n = C := ⟨_, rfl⟩
  have hSs : S.size ≤ 500 := by rw [← hS, ByteArray.size_extract]; omega
  have hTs : T.size ≤ 500 := by rw [← hT, ByteArray.size_extract]; omega
  have hsl := slice_to 9 Tryd.underlying9 s0 m (by omega) S hS
  have htl := slice_to 9 Tryd.underlying9 t0 n (by omega) T hT
  have c1 := fun W h => sum_any S (by omega) W h
  have c2 := fun W => sumR_any S (by omega) W
  have c3 := fun W h => leaf_any T (by omega) W h
  have c4 := fun W => leafR_any T (by omega) W
  have c5 := fun W h => node_any S T (by omega) (by omega) W h
  have c6 := fun W => nodeR_any S T (by omega) (by omega) W
  have c7 := fun W h => chain_any T S (by omega) (by omega) W h
  have c8 := fun W => chainR_any T S (by omega) (by omega) W
  obtain ⟨D1, e1⟩ : ∃ d, sha S = d := ⟨_, rfl⟩
  obtain ⟨D2, e2⟩ : ∃ d, leafF T = d := ⟨_, rfl⟩
  obtain ⟨D3, e3⟩ : ∃ d, nodeF S T = d := ⟨_, rfl⟩
  obtain ⟨D4, e4⟩ : ∃ d, chainF T S = d := ⟨_, rfl⟩
  rw [e1] at c1 c2; rw [e2] at c3 c4; rw [e3] at c5 c6; rw [e4] at c7 c8
  have C1 := Lib.hid c1; have C2 := Lib.hid c2; have C3 := Lib.hid c3; have C4 := Lib.hid c4; have C5 := Lib.hid c5; have C6 := Lib.hid c6; have C7 := Lib.hid c7; have C8 := Lib.hid c8
  clear c1 c2 c3 c4 c5 c6 c7 c8 e1 e2 e3 e4 hS hT hm hn
  go_enter Tryd.func3, Tryd.ntmps3
  go_wp2_with fail
  refine (sane_any _ HR.out).mono ?_
  rintro e w1 ⟨rfl, b1⟩
  have B1 := Lib.hid b1; have R1 := Lib.hid (HR.out.below b1)
  clear b1
  go_wp2_with fail
  refine (C1.out _ R1.out).mono ?_
  rintro e w2 ⟨rfl, b2⟩
  have B2 := Lib.hid (B1.out.trans (b2.mono B1.out.size)); have R2 := Lib.hid (R1.out.below b2)
  clear b2
  go_wp2_with fail
  refine (C2.out _).mono ?_
  rintro e w3 ⟨rfl, b3⟩
  have B3 := Lib.hid (B2.out.trans (b3.mono B2.out.size)); have R3 := Lib.hid (R2.out.below b3)
  clear b3
  go_wp2_with fail
  refine (C3.out _ R3.out).mono ?_
  rintro e w4 ⟨rfl, b4⟩
  have B4 := Lib.hid (B3.out.trans (b4.mono B3.out.size)); have R4 := Lib.hid (R3.out.below b4)
  clear b4
  go_wp2_with fail
  refine (C4.out _).mono ?_
  rintro e w5 ⟨rfl, b5⟩
  have B5 := Lib.hid (B4.out.trans (b5.mono B4.out.size)); have R5 := Lib.hid (R4.out.below b5)
  clear b5
  go_wp2_with fail
  refine (C5.out _ R5.out).mono ?_
  rintro e w6 ⟨rfl, b6⟩
  have B6 := Lib.hid (B5.out.trans (b6.mono B5.out.size)); have R6 := Lib.hid (R5.out.below b6)
  clear b6
  go_wp2_with fail
  refine (C6.out _).mono ?_
  rintro e w7 ⟨rfl, b7⟩
  have B7 := Lib.hid (B6.out.trans (b7.mono B6.out.size)); have R7 := Lib.hid (R6.out.below b7)
  clear b7
  go_wp2_with fail
  refine (C7.out _ R7.out).mono ?_
  rintro e w8 ⟨rfl, b8⟩
  have B8 := Lib.hid (B7.out.trans (b8.mono B7.out.size)); have R8 := Lib.hid (R7.out.below b8)
  clear b8
  go_wp2_with fail
  refine (C8.out _).mono ?_
  rintro e w9 ⟨rfl, b9⟩
  have B9 := Lib.hid (B8.out.trans (b9.mono B8.out.size))
  clear b9
  go_wp2
  go_ret
  exact ⟨rfl, B9.out⟩

theorem sum_walk0 (s0 t0 : ByteArray) (hs0 : s0.size ≤ maxLen) (ht0 : t0.size ≤ maxLen) (w : World) (hT : HasK w) (h0 : 0 < w.heap.size) :
    Calls Tryd.prog 3 #[.string s0, .string t0] w fun e w' => e = .returned (.bool true) ∧ Below w.heap.size w w' :=
  sum_walk s0 t0 hs0 ht0 w ⟨hT, h0⟩
end Go.Proofs.YtoaaelnmbpmbeaaDoor
