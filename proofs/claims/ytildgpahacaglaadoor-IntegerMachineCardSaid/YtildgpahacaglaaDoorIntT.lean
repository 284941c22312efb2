/-
  The contract of package integer's ToInt.
-/
import Derived.Test.YtildgpahacaglaaDoorIntD
import Derived.Lib.SmallJoins
namespace Go.Proofs.YtildgpahacaglaaDoor
open Go Go.Proofs Go.RowKit Go.Lib

/-- The library's error variable lies as its initialiser lays it. -/
def ErrR (w : World) : Prop := ∃ (tp : TypeId) (p : Value), w.var? Tryd.prog "strconv.ErrRange" = some #[.iface tp p]
theorem errRange_named : (Tryd.prog.globalNamed "strconv.ErrRange").isSome = true := by kernel_rfl
theorem ErrR.below {w w' : World} (h : ErrR w) (b : Below w.heap.size w w') : ErrR w' := by
  obtain ⟨tp, p, h⟩ := h
  obtain ⟨g, hg⟩ := Option.isSome_iff_exists.1 errRange_named
  exact ⟨tp, p, Go.Joins.var_stays hg h b (Nat.le_refl _)⟩

set_option maxRecDepth 100000 in
set_option maxHeartbeats 4000000 in
theorem to_i (s : ByteArray) (hs : s.size ≤ 1099511627776) (w : World) (hE : ErrR w) :
    Calls Tryd.prog 13 #[.string s] w fun e w' => e = .returned (.tuple #[.int .i64 (toT s), .int .i64 (toZ s)]) ∧ Below w.heap.size w w' := by
  have cv1 := fun W => valid_w s hs W
  unfold toT toZ fitM
  cases hv1 : validB s with
  | false =>
    rw [hv1] at cv1
    have CV1 := Lib.hid cv1
    clear cv1 hv1 hE
    go_enter Tryd.func13, Tryd.ntmps13
    go_wp2_with fail
    refine (CV1.out _).mono ?_
    rintro e w1 ⟨rfl, rfl⟩
    go_wp2_with fail
    go_ret2
    exact ⟨rfl, Below.refl _ _⟩
  | true =>
    have ha := atoi_valid hv1
    rw [hv1] at cv1
    by_cases hx : -9223372036854775808 ≤ numB s ∧ numB s ≤ 9223372036854775807
    · rw [if_pos hx] at ha
      rw [decide_eq_true hx, show (true && true) = true from rfl, if_pos rfl, if_pos rfl]
      have ca := fun W => strconv_Atoi_ok s (by omega) (numB s) ha W
      obtain ⟨X, hX⟩ : ∃ X, numB s = X := ⟨_, rfl⟩
      rw [hX] at ca ⊢
      have CV1 := Lib.hid cv1; have CA := Lib.hid ca
      clear cv1 hv1 hE ha hx hX ca
      go_enter Tryd.func13, Tryd.ntmps13
      go_wp2_with fail
      refine (CV1.out _).mono ?_
      rintro e w1 ⟨rfl, rfl⟩
      go_wp2_with fail
      refine (CA.out _).mono ?_
      rintro e w2 ⟨rfl, hw⟩
      have hb : Below w.heap.size w w2 := by
        rcases hw with rfl | ⟨t, rfl⟩
        · exact Below.refl _ _
        · exact Lib.bytesWorld_below w _ t
      have HB := Lib.hid hb
      clear hw hb
      go_wp2_with fail
      go_ret2
      exact ⟨rfl, HB.out⟩
    · rw [if_neg hx] at ha
      rw [decide_eq_false hx, show (true && false) = false from rfl, if_neg (by simp), if_neg (by simp)]
      obtain ⟨tp, p, hvar⟩ := hE
      have ca := strconv_Atoi_range_var s (by omega) ha tp p w hvar
      have CV1 := Lib.hid cv1; have CA := Lib.hid ca
      clear cv1 hv1 ha hx ca hvar
      go_enter Tryd.func13, Tryd.ntmps13
      go_wp2_with fail
      refine (CV1.out _).mono ?_
      rintro e w1 ⟨rfl, rfl⟩
      go_wp2_with fail
      refine CA.out.mono ?_
      rintro e w2 ⟨N, rfl, _, _, hb⟩
      have HB := Lib.hid hb
      clear hb
      go_wp2_with fail
      go_ret2
      exact ⟨rfl, HB.out⟩
end Go.Proofs.YtildgpahacaglaaDoor
