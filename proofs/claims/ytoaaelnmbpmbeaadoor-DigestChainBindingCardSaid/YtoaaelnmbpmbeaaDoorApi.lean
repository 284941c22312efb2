/-
  The contracts of digest.Proof, Verify, Extension and VerifyExtension.
-/
import Derived.Test.YtoaaelnmbpmbeaaDoorPart
import Derived.Test.YtoaaelnmbpmbeaaDoorTwo
namespace Go.Proofs.YtoaaelnmbpmbeaaDoor
open Go Go.Proofs Go.RowKit Go.Lib

/-- What Verify returns. -/
def verB (root : ByteArray) (n i : Int) (s : ByteArray) (p : List ByteArray) : Bool :=
  decide (0 ≤ i ∧ i < n) && (allDig p && decide (valF n.toNat i.toNat s p = some root))
/-- What VerifyExtension returns. -/
def verX (old : ByteArray) (m : Int) (root : ByteArray) (n : Int) (p : List ByteArray) : Bool :=
  decide (0 ≤ m ∧ m ≤ n) && (decide (old.size = 32 ∧ root.size = 32) && (allDig p &&
    (if m = 0 then decide (p = [] ∧ old = rootF []) else decide (twoF old m.toNat n.toNat true p = some (old, root)))))

/-- What Proof and Extension leave. -/
def ErrPost (w : World) (p : List ByteArray) (e : Ending) (w' : World) : Prop := ∃ v, e = .returned (.tuple #[v, .int .i64 0]) ∧ OwnStrs w' w.heap.size v p ∧ Below w.heap.size w w'

theorem str_eq_iff (a b : ByteArray) : (a.toList == b.toList) = decide (a = b) := by
  rw [ByteArray.toList_eq, ByteArray.toList_eq, Bool.eq_iff_iff, beq_iff_eq, decide_eq_true_eq]
  exact ⟨fun h => ba_ext h, fun h => by rw [h]⟩

set_option maxHeartbeats 1000000 in
theorem proof_bad (ad : Option Addr) (n cap : Nat) (i : Int) (h : i < 0 ∨ (n : Int) ≤ i) (w : World) :
    Calls Tryd.prog 22 #[.slice ad n cap, .int .i64 i] w fun e w' => e = .returned (.tuple #[.slice none 0 0, .int .i64 2]) ∧ w = w' := by
  by_cases h0 : i < 0
  · clear h
    go_enter Tryd.func22, Tryd.ntmps22
    go_wp2_with fail
    go_ret2
    exact ⟨rfl, rfl⟩
  · have h1 : (n : Int) ≤ i := by omega
    have h2 : ¬ i < (n : Int) := by omega
    clear h
    go_enter Tryd.func22, Tryd.ntmps22
    go_wp2_with fail
    go_ret2
    exact ⟨rfl, rfl⟩

set_option maxHeartbeats 1000000 in
theorem proof_ok (l : List ByteArray) (i : Nat) (ad : Option Addr) (cap : Nat) (w : World) (h6 : l.length ≤ 1000000) (hi : i < l.length) (hH : Holds w ad cap l) (hM : Small l) (hR : Ready w) :
    Calls Tryd.prog 22 #[.slice ad l.length cap, .int .i64 (i : Nat)] w (ErrPost w (proofF l i)) := by
  obtain ⟨b, o, rfl, hlt, hS⟩ := hH.at (by omega)
  have c := proof_any l.length l i b o cap w (Nat.le_refl _) h6 hi hH.1 hH.2.1 hlt hS hM hR
  have h1 : ¬ (l.length : Int) ≤ (i : Int) := by omega
  have h2 : (i : Int) < (l.length : Int) := by omega
  have C := Lib.hid c
  clear c hS hM hR hH hi
  go_enter Tryd.func22, Tryd.ntmps22
  go_wp2_with fail
  refine C.out.mono ?_
  rintro e W1 ⟨v, rfl, ho, hb⟩
  go_wp2
  go_ret2
  exact ⟨_, rfl, ho, hb⟩

set_option maxHeartbeats 1000000 in
theorem ext_bad (ad : Option Addr) (n cap : Nat) (i : Int) (h : i < 0 ∨ (n : Int) < i) (w : World) :
    Calls Tryd.prog 24 #[.slice ad n cap, .int .i64 i] w fun e w' => e = .returned (.tuple #[.slice none 0 0, .int .i64 2]) ∧ w = w' := by
  by_cases h0 : i < 0
  · clear h
    go_enter Tryd.func24, Tryd.ntmps24
    go_wp2_with fail
    go_ret2
    exact ⟨rfl, rfl⟩
  · have h1 : (n : Int) < i := by omega
    clear h
    go_enter Tryd.func24, Tryd.ntmps24
    go_wp2_with fail
    go_ret2
    exact ⟨rfl, rfl⟩

set_option maxHeartbeats 1000000 in
theorem ext_zero (ad : Option Addr) (n cap : Nat) (w : World) :
    Calls Tryd.prog 24 #[.slice ad n cap, .int .i64 0] w (ErrPost w []) := by
  have h1 : ¬ (n : Int) < 0 := by omega
  go_enter Tryd.func24, Tryd.ntmps24
  go_wp2_with fail
  go_ret2
  exact ⟨_, rfl, OwnStrs.nil _ _, Below.refl _ _⟩

set_option maxHeartbeats 1000000 in
theorem ext_ok (l : List ByteArray) (m : Nat) (ad : Option Addr) (cap : Nat) (w : World) (h6 : l.length ≤ 1000000) (hm1 : 1 ≤ m) (hm : m ≤ l.length) (hH : Holds w ad cap l) (hM : Small l) (hR : Ready w) :
    Calls Tryd.prog 24 #[.slice ad l.length cap, .int .i64 (m : Nat)] w (ErrPost w (partF l m true)) := by
  obtain ⟨b, o, rfl, hlt, hS⟩ := hH.at (by omega)
  have c := part_any l.length l m true b o cap w (Nat.le_refl _) h6 hm1 hm hH.1 hH.2.1 hlt hS hM hR
  have h1 : ¬ (l.length : Int) < (m : Int) := by omega
  have h2 : ((m : Int) == 0) = false := by rw [beq_eq_false_iff_ne]; omega
  have C := Lib.hid c
  clear c hS hM hR hH hm
  go_enter Tryd.func24, Tryd.ntmps24
  go_wp2_with fail
  refine C.out.mono ?_
  rintro e W1 ⟨v, rfl, ho, hb⟩
  go_wp2
  go_ret2
  exact ⟨_, rfl, ho, hb⟩

set_option maxHeartbeats 2000000 in
theorem ver_any (root : ByteArray) (n i : Int) (s : ByteArray) (p : List ByteArray) (ad : Option Addr) (cap : Nat) (w : World) (hn : n ≤ 9223372036854775807) (hs : s.size ≤ 1099511627776) (hH : Holds w ad cap p) (hM : Small p) (hR : Ready w) :
    Calls Tryd.prog 29 #[.string root, .int .i64 n, .int .i64 i, .string s, .slice ad p.length cap] w fun e w' => e = .returned (.bool (verB root n i s p)) ∧ Below w.heap.size w w' := by
  by_cases hin : 0 ≤ i ∧ i < n
  · obtain ⟨j, rfl⟩ := Int.eq_ofNat_of_zero_le hin.1
    obtain ⟨N, rfl⟩ := Int.eq_ofNat_of_zero_le (show 0 ≤ n by omega)
    have hv : verB root (N : Int) (j : Int) s p = (allDig p && decide (valF N j s p = some root)) := by
      unfold verB; rw [decide_eq_true hin]; simp
    have hjN : (j : Int) < (N : Int) := hin.2
    have hjN2 : ¬ (N : Int) ≤ (j : Int) := by omega
    have cd := fun W => dig_any p ad cap W
    have cv := value_any p.length p N j s ad cap w (Nat.le_refl _) (by omega) (by omega) hs hH hM hR
    have hd := dig_any p ad cap w hH hM
    cases hdg : allDig p with
    | false =>
      rw [hdg] at hv hd
      have HV := Lib.hid hv; have HD := Lib.hid hd
      clear hv hd cd cv hH hM hR hdg hin
      go_enter Tryd.func29, Tryd.ntmps29
      go_wp2_with fail
      refine HD.out.mono ?_
      rintro e w' ⟨rfl, rfl⟩
      go_wp2
      go_ret
      exact ⟨ret_bool (by rw [HV.out]; rfl), Below.refl _ _⟩
    | true =>
      rw [hdg] at hv hd
      have HV := Lib.hid hv; have HD := Lib.hid hd; have CV := Lib.hid cv
      clear hv hd cd cv hH hM hR hdg hin
      go_enter Tryd.func29, Tryd.ntmps29
      go_wp2_with fail
      refine HD.out.mono ?_
      rintro e w' ⟨rfl, rfl⟩
      go_wp2_with fail
      refine CV.out.mono ?_
      rintro e W1 ⟨v, ok, rfl, hval, _, hb⟩
      have HVAL := Lib.hid hval
      clear hval
      cases ok with
      | false =>
        go_wp2
        go_ret
        exact ⟨ret_bool (by rw [HV.out, HVAL.out]; simp), hb⟩
      | true =>
        go_wp2
        go_ret
        exact ⟨ret_bool (by rw [HV.out, HVAL.out, str_eq_iff]; simp), hb⟩
  · have hv : verB root n i s p = false := by unfold verB; rw [decide_eq_false hin]; rfl
    have HV := Lib.hid hv
    clear hv hH hM hR
    by_cases h0 : i < 0
    · clear hin
      go_enter Tryd.func29, Tryd.ntmps29
      go_wp2_with fail
      go_ret
      exact ⟨ret_bool HV.out.symm, Below.refl _ _⟩
    · have h1 : n ≤ i := by omega
      have h2 : ¬ i < n := by omega
      clear hin
      go_enter Tryd.func29, Tryd.ntmps29
      go_wp2_with fail
      go_ret
      exact ⟨ret_bool HV.out.symm, Below.refl _ _⟩
end Go.Proofs.YtoaaelnmbpmbeaaDoor
