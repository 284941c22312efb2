/-
  IntegerText returns true for all arguments: the walk.
-/
import Derived.Test.YtildgpahacaglaaDoorLawOrder
namespace Go.Proofs.YtildgpahacaglaaDoor
open Go Go.Proofs Go.RowKit Go.Lib

theorem fits_word {n : Int} (hlo : -9223372036854775808 ≤ n) (hhi : n ≤ 9223372036854775807) : Fits n := by
  have : n.natAbs < 10 ^ 20 := by omega
  exact fits_of this (by decide)
theorem to_text {n : Int} (hlo : -9223372036854775808 ≤ n) (hhi : n ≤ 9223372036854775807) : toT (textI n) = n ∧ toZ (textI n) = 0 := by
  have f := fits_word hlo hhi
  unfold toT toZ fitM
  rw [(valid_text f).1, (valid_text f).2, decide_eq_true ⟨hlo, hhi⟩]
  exact ⟨rfl, rfl⟩
theorem to_fit {n : Int} (hlo : -9223372036854775808 ≤ n) (hhi : n ≤ 9223372036854775807) (w : World) (hE : ErrR w) :
    Calls Tryd.prog 13 #[.string (textI n)] w fun e w' => e = .returned (.tuple #[.int .i64 n, .int .i64 0]) ∧ Below w.heap.size w w' := by
  have c := to_i _ (fit_le (fits_word hlo hhi)) w hE
  rw [(to_text hlo hhi).1, (to_text hlo hhi).2] at c
  exact c

set_option maxRecDepth 100000 in
set_option maxHeartbeats 4000000 in
theorem integerText_walk (n : Int) (s : ByteArray) (hlo : -9223372036854775808 ≤ n) (hhi : n ≤ 9223372036854775807) (hs : s.size ≤ maxLen) (w : World) (hR : Ready w) (hE : ErrR w) :
    Calls Tryd.prog 4 #[.int .i64 n, .string s] w fun e w' => e = .returned (.bool true) ∧ Below w.heap.size w w' := by
  unfold maxLen at hs
  have B0 := Lib.hid (Below.refl w.heap.size w)
  have HR0 := Lib.hid hR; have HE0 := Lib.hid hE
  clear hR hE
  obtain ⟨r, hr⟩ : ∃ t, s.extract 0 (min (s.size : Int) 30).toNat = t := ⟨_, rfl⟩
  have hrs : r.size ≤ 30 := by rw [← hr, ByteArray.size_extract]; omega
  have fn := fits_word hlo hhi
  have c1 := fun W hW => from_i n hlo hhi W hW
  have c2 := fun W hW => to_fit hlo hhi W hW
  have c3 := fun W hW => to_i r (by omega) W hW
  have c4 := fun W hW => valid_fit fn W hW
  generalize textI n = T at *
  by_cases hf : fitM r = true
  · have hf' := hf
    unfold fitM at hf'
    rw [Bool.and_eq_true, decide_eq_true_eq] at hf'
    obtain ⟨hv, h1, h2⟩ := hf'
    have hrt := (text_valid hv).2
    have c5 := fun W hW => valid_i r (by omega) W hW
    have c6 := fun W hW => from_i (numB r) h1 h2 W hW
    unfold toT toZ at c3
    rw [hf, if_pos rfl, if_pos rfl] at c3
    rw [hv] at c5
    rw [← hrt] at c6
    generalize numB r = k at *
    have C1 := Lib.hid c1; have C2 := Lib.hid c2; have C3 := Lib.hid c3; have C4 := Lib.hid c4; have C5 := Lib.hid c5; have C6 := Lib.hid c6
    clear c1 c2 c3 c4 c5 c6 hf hv hrt fn hrs
    go_enter Tryd.func4, Tryd.ntmps4
    have HR := Lib.hid hr
    clear hr
    go_wp2_with fail
    refine (sane_any _ (HR0.out.below B0.out)).mono ?_
    rintro e w1 ⟨rfl, b1⟩
    have B1 := Lib.hid (B0.out.trans (b1.mono B0.out.size))
    clear b1 B0
    go_wp2_with fail
    rw [HR.out]
    refine (C1.out _ (HR0.out.below B1.out)).mono ?_
    rintro e w2 ⟨rfl, b2⟩
    have B2 := Lib.hid (B1.out.trans (b2.mono B1.out.size))
    clear b2 B1 C1
    go_wp2_with fail
    refine (C2.out _ (HE0.out.below B2.out)).mono ?_
    rintro e w3 ⟨rfl, b3⟩
    have B3 := Lib.hid (B2.out.trans (b3.mono B2.out.size))
    clear b3 B2 C2
    go_wp2_with fail
    refine (C3.out _ (HE0.out.below B3.out)).mono ?_
    rintro e w4 ⟨rfl, b4⟩
    have B4 := Lib.hid (B3.out.trans (b4.mono B3.out.size))
    clear b4 B3 C3
    go_wp2_with fail
    refine (C4.out _ (HR0.out.below B4.out)).mono ?_
    rintro e w5 ⟨rfl, b5⟩
    have B5 := Lib.hid (B4.out.trans (b5.mono B4.out.size))
    clear b5 B4 C4
    go_wp2_with fail
    refine (C5.out _ (HR0.out.below B5.out)).mono ?_
    rintro e w6 ⟨rfl, b6⟩
    have B6 := Lib.hid (B5.out.trans (b6.mono B5.out.size))
    clear b6 B5 C5
    go_wp2_with fail
    refine (C6.out _ (HR0.out.below B6.out)).mono ?_
    rintro e w7 ⟨rfl, b7⟩
    have B7 := Lib.hid (B6.out.trans (b7.mono B6.out.size))
    clear b7 B6 C6
    go_wp2
    go_ret
    exact ⟨rfl, B7.out⟩
  · have hf' : fitM r = false := by simpa using hf
    unfold toT toZ at c3
    rw [hf', if_neg (by decide), if_neg (by decide)] at c3
    have C1 := Lib.hid c1; have C2 := Lib.hid c2; have C3 := Lib.hid c3; have C4 := Lib.hid c4
    clear c1 c2 c3 c4 hf hf' fn hrs
    go_enter Tryd.func4, Tryd.ntmps4
    have HR := Lib.hid hr
    clear hr
    go_wp2_with fail
    refine (sane_any _ (HR0.out.below B0.out)).mono ?_
    rintro e w1 ⟨rfl, b1⟩
    have B1 := Lib.hid (B0.out.trans (b1.mono B0.out.size))
    clear b1 B0
    go_wp2_with fail
    rw [HR.out]
    refine (C1.out _ (HR0.out.below B1.out)).mono ?_
    rintro e w2 ⟨rfl, b2⟩
    have B2 := Lib.hid (B1.out.trans (b2.mono B1.out.size))
    clear b2 B1 C1
    go_wp2_with fail
    refine (C2.out _ (HE0.out.below B2.out)).mono ?_
    rintro e w3 ⟨rfl, b3⟩
    have B3 := Lib.hid (B2.out.trans (b3.mono B2.out.size))
    clear b3 B2 C2
    go_wp2_with fail
    refine (C3.out _ (HE0.out.below B3.out)).mono ?_
    rintro e w4 ⟨rfl, b4⟩
    have B4 := Lib.hid (B3.out.trans (b4.mono B3.out.size))
    clear b4 B3 C3
    go_wp2_with fail
    refine (C4.out _ (HR0.out.below B4.out)).mono ?_
    rintro e w5 ⟨rfl, b5⟩
    have B5 := Lib.hid (B4.out.trans (b5.mono B4.out.size))
    clear b5 B4 C4
    go_wp2
    go_ret
    exact ⟨rfl, B5.out⟩
end Go.Proofs.YtildgpahacaglaaDoor
