/-
  The contract of the statements' helper sane: its fixed examples all hold.
-/
import Derived.Test.YtkilmnhciigkcaaDoorStr
import Derived.Test.YtkilmnhciigkcaaDoorSum
import Derived.Test.YtkilmnhciigkcaaDoorBase
namespace Go.Proofs.YtkilmnhciigkcaaDoor
open Go Go.Proofs Go.RowKit Go.Lib

theorem HasTab.below {w w' : World} {n : Nat} (h : HasTab w) (hb : Below n w w') (hn : 0 < n) : HasTab w' :=
  fun i hi => (hb.cell (p := ⟨0, i, none⟩) hn).trans (h i hi)

theorem e_m64 : encS (-64) = ⟨#[127]⟩ := by
  show (⟨(uvarint 127).toArray⟩ : ByteArray) = _
  rw [uvarint_small (by decide)]; rfl
theorem e_64 : encS 64 = ⟨#[128, 1]⟩ := by
  show (⟨(uvarint 128).toArray⟩ : ByteArray) = _
  rw [uvarint_big (by decide), uvarint_small (by decide)]; rfl
theorem e_2 : encS 2 = ⟨#[4]⟩ := by
  show (⟨(uvarint 4).toArray⟩ : ByteArray) = _
  rw [uvarint_small (by decide)]; rfl

theorem ex1 (w : World) : Calls Tryd.prog 12 #[.int .i64 (-64)] w fun e w' => e = .returned (.tuple #[.string ⟨#[127]⟩, .int .i64 0]) ∧ Below w.heap.size w w' := by
  have := putInt_yes (-64) (by decide) (by decide) w
  rwa [e_m64] at this
theorem ex2 (w : World) : Calls Tryd.prog 12 #[.int .i64 64] w fun e w' => e = .returned (.tuple #[.string ⟨#[128, 1]⟩, .int .i64 0]) ∧ Below w.heap.size w w' := by
  have := putInt_yes 64 (by decide) (by decide) w
  rwa [e_64] at this
theorem ex3 (w : World) : Calls Tryd.prog 15 #[.string ⟨#[97, 172, 2, 98]⟩, .int .i64 1] w fun e w' => e = .returned (.tuple #[.int .i64 150, .int .i64 3, .int .i64 0]) ∧ w = w' :=
  int_some ⟨#[97, 172, 2, 98]⟩ (by decide +kernel) 1 (by decide) 300 2 (by decide +kernel) w
theorem ex4 (w : World) : Calls Tryd.prog 15 #[.string ⟨#[128, 0]⟩, .int .i64 0] w fun e w' => e = .returned (.tuple #[.int .i64 0, .int .i64 0, .int .i64 10]) ∧ w = w' :=
  int_none ⟨#[128, 0]⟩ (by decide +kernel) 0 (by decide) (by decide +kernel) w
theorem ex5 (w : World) : Calls Tryd.prog 19 #[.string ⟨#[97, 98]⟩] w fun e w' => e = .returned (.tuple #[.string ⟨#[4, 97, 98]⟩, .int .i64 0]) ∧ Below w.heap.size w w' := by
  have := putString_ok ⟨#[97, 98]⟩ (by decide) w
  rw [show (((⟨#[97, 98]⟩ : ByteArray).size : Nat) : Int) = 2 from rfl, e_2] at this
  exact this
theorem ex6 (w : World) : Calls Tryd.prog 17 #[.string ⟨#[4, 97, 98, 99]⟩, .int .i64 0] w fun e w' => e = .returned (.tuple #[.string ⟨#[97, 98]⟩, .int .i64 3, .int .i64 0]) ∧ Below w.heap.size w w' :=
  string_ok ⟨#[4, 97, 98, 99]⟩ (by decide +kernel) 0 (by decide) 4 1 2 (by decide +kernel) (by decide) (by decide) (by decide) w
theorem ex7 (w : World) : Calls Tryd.prog 17 #[.string ⟨#[4, 97]⟩, .int .i64 0] w fun e w' => e = .returned (.tuple #[.string ByteArray.empty, .int .i64 0, .int .i64 10]) ∧ w = w' :=
  string_bad ⟨#[4, 97]⟩ (by decide +kernel) 0 (by decide) 4 1 (by decide +kernel) (by decide) w
theorem ex8 (w : World) : Calls Tryd.prog 12 #[.int .i64 4611686018427387904] w fun e w' => e = .returned (.tuple #[.string ByteArray.empty, .int .i64 10]) ∧ Below w.heap.size w w' :=
  putInt_no _ (by decide) w
theorem ex9 (w : World) : Calls Tryd.prog 15 #[.string ⟨#[]⟩, .int .i64 1] w fun e w' => e = .returned (.tuple #[.int .i64 0, .int .i64 0, .int .i64 2]) ∧ w = w' :=
  int_arg ⟨#[]⟩ 1 (by decide) w
theorem ex10 (w : World) (hT : HasTab w) : Calls Tryd.prog 21 #[.string ⟨#[49, 50, 51, 52, 53, 54, 55, 56, 57]⟩] w fun e w' => e = .returned (.int .i64 3808858755) ∧ w = w' := by
  have := sum_any ⟨#[49, 50, 51, 52, 53, 54, 55, 56, 57]⟩ (by decide +kernel) w hT
  rw [show 4294967295 - crcF (⟨#[49, 50, 51, 52, 53, 54, 55, 56, 57]⟩ : ByteArray).data.toList = 3808858755 by decide +kernel] at this
  exact this

set_option maxRecDepth 100000 in
set_option maxHeartbeats 4000000 in
theorem sane_any (w : World) (hT : HasTab w) (h0 : 0 < w.heap.size) :
    Calls Tryd.prog 10 #[] w fun e w' => e = .returned (.bool true) ∧ Below w.heap.size w w' := by
  go_enter Tryd.func10, Tryd.ntmps10
  go_wp2_with fail
  refine (ex1 _).mono ?_
  rintro e w1 ⟨rfl, hb1⟩
  go_wp2_with fail
  refine (ex2 _).mono ?_
  rintro e w2 ⟨rfl, hb2⟩
  go_wp2_with fail
  refine (ex3 _).mono ?_
  rintro e w3 ⟨rfl, rfl⟩
  go_wp2_with fail
  refine (ex4 _).mono ?_
  rintro e w3 ⟨rfl, rfl⟩
  go_wp2_with fail
  refine (ex5 _).mono ?_
  rintro e w3 ⟨rfl, hb3⟩
  go_wp2_with fail
  refine (ex6 _).mono ?_
  rintro e w4 ⟨rfl, hb4⟩
  go_wp2_with fail
  refine (ex7 _).mono ?_
  rintro e w5 ⟨rfl, rfl⟩
  go_wp2_with fail
  refine (ex8 _).mono ?_
  rintro e w5 ⟨rfl, hb5⟩
  go_wp2_with fail
  refine (ex9 _).mono ?_
  rintro e w6 ⟨rfl, rfl⟩
  go_wp2_with fail
  have hb : Below w.heap.size w w5 := hb1.trans ((hb2.mono hb1.size).trans ((hb3.mono (Nat.le_trans hb1.size hb2.size)).trans ((hb4.mono (Nat.le_trans hb1.size (Nat.le_trans hb2.size hb3.size))).trans (hb5.mono (Nat.le_trans hb1.size (Nat.le_trans hb2.size (Nat.le_trans hb3.size hb4.size)))))))
  refine (ex10 _ (hT.below hb h0)).mono ?_
  rintro e w6 ⟨rfl, rfl⟩
  go_wp2
  go_ret
  exact ⟨rfl, hb⟩
end Go.Proofs.YtkilmnhciigkcaaDoor
