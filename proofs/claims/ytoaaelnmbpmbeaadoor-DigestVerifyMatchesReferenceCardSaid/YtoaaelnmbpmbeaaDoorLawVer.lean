/-
  DigestVerifyMatchesReference returns true for all arguments: the walk.
-/
import Derived.Test.YtoaaelnmbpmbeaaDoorRefVer2
import Derived.Test.YtoaaelnmbpmbeaaDoorBig
namespace Go.Proofs.YtoaaelnmbpmbeaaDoor
open Go Go.Proofs Go.RowKit Go.Lib

set_option maxRecDepth 100000 in
set_option maxHeartbeats 4000000 in
theorem ver_walk (old root : ByteArray) (n i : Int) (s0 : ByteArray) (ad0 : Option Addr) (n0 c0 : Nat) (t : Nat → ByteArray) (ho : old.size ≤ maxLen) (hr : root.size ≤ maxLen) (hn1 : n ≤ 9223372036854775807) (hs0 : s0.size ≤ maxLen) (hn : n0 ≤ maxLen) (w : World) (hI : StrsIn w ad0 n0 t) (hR : Ready w) :
    Calls Tryd.prog 5 #[.string old, .string root, .int .i64 n, .int .i64 i, .string s0, .slice ad0 n0 c0] w fun e w' => e = .returned (.bool true) ∧ Below w.heap.size w w' := by
  unfold maxLen at ho hr hs0
  have HR := Lib.hid hR
  clear hR
  obtain ⟨M, hM⟩ : ∃ M, min n0 70 = M := ⟨_, rfl⟩
  have hM70 : M ≤ 70 := by omega
  obtain ⟨p, hp⟩ : ∃ l, fewL t M = l := ⟨_, rfl⟩
  have hpl : p.length = M := by rw [← hp]; exact fewL_length t M
  have hsm : Small p := by rw [← hp]; exact small60
  have hsm6 : Sm p := by rw [← hp]; exact fun s hs => by have := fewL_small t M s hs; omega
  have c1 := fun W hb => few_call ad0 n0 c0 t 70 M p hn (by decide) hM hp w W hI hb
  obtain ⟨m, hm⟩ : ∃ m, m = min s0.size 60 := ⟨_, rfl⟩
  have hmn1 : min (s0.size : Int) 60 = (m : Int) := by omega
  have hmn2 : (if (60 : Int) < (s0.size : Int) then (60 : Int) else (s0.size : Int)) = (m : Int) := by split <;> omega
  obtain ⟨S, hS⟩ : ∃ C, s0.extract 0 m = C := ⟨_, rfl⟩
  have hSs : S.size ≤ 60 := by rw [← hS, ByteArray.size_extract]; omega
  have hsl := slice_to 9 Tryd.underlying9 s0 m (by omega) S hS
  have cv := fun ad cap W (h : Keeps w W ad cap p) => ver_any root n i S p ad cap W hn1 (by omega) h.hh hsm h.hr
  have cu := fun ad cap W (h : Keeps w W ad cap p) => verR_any root n i S p ad cap W hn1 (by omega) h.hh hsm6
  have cx := fun ad cap W (h : Keeps w W ad cap p) => verx_big old i root n p ad cap W hn1 ho hr h.hh hsm h.hr
  have cy := fun ad cap W (h : Keeps w W ad cap p) => verxR_any old i root n p ad cap W hn1 h.hh hsm6
  rw [hpl] at cv cu cx cy
  obtain ⟨V, eV⟩ : ∃ V, verB root n i S p = V := ⟨_, rfl⟩
  obtain ⟨X, eX⟩ : ∃ V, verX old i root n p = V := ⟨_, rfl⟩
  rw [eV] at cv cu
  rw [eX] at cx cy
  have C1 := Lib.hid c1; have CV := Lib.hid cv; have CU := Lib.hid cu; have CX := Lib.hid cx; have CY := Lib.hid cy
  have hVV : (V == V) = true := by simp
  have hXX : (X == X) = true := by simp
  clear c1 cv cu cx cy eV eX hM hp hpl hsm hsm6 hI hn hm hS hn1
  go_enter Tryd.func5, Tryd.ntmps5
  go_wp2_with fail
  refine (sane_any _ HR.out).mono ?_
  rintro e w1 ⟨rfl, b1⟩
  have B1 := Lib.hid b1
  clear b1
  go_wp2_with fail
  refine (C1.out _ B1.out).mono ?_
  rintro e w2 ⟨ad, cap, rfl, hh, b2⟩
  have K2 := Lib.hid (Keeps.mk (w := w) (W := w2) (B1.out.trans (b2.mono B1.out.size)) hh ((HR.out.below B1.out).below b2))
  clear hh b2 B1 C1
  go_wp2_with fail
  refine (CV.out _ _ _ K2.out).mono ?_
  rintro e w3 ⟨rfl, b3⟩
  have K3 := Lib.hid (K2.out.go b3)
  clear b3 K2 CV
  go_wp2_with fail
  refine (CU.out _ _ _ K3.out).mono ?_
  rintro e w4 ⟨rfl, b4⟩
  have K4 := Lib.hid (K3.out.go b4)
  clear b4 K3 CU
  go_wp2_with fail
  refine (CX.out _ _ _ K4.out).mono ?_
  rintro e w5 ⟨rfl, b5⟩
  have K5 := Lib.hid (K4.out.go b5)
  clear b5 K4 CX
  go_wp2_with fail
  refine (CY.out _ _ _ K5.out).mono ?_
  rintro e w6 ⟨rfl, b6⟩
  have K6 := Lib.hid (K5.out.go b6)
  clear b6 K5 CY
  go_wp2
  go_ret
  exact ⟨rfl, K6.out.hb⟩

theorem ver_walk0 (old root : ByteArray) (n i : Int) (s0 : ByteArray) (a0 : Option Addr) (n0 c0 : Nat) (w : World) (ho : old.size ≤ maxLen) (hr : root.size ≤ maxLen) (_ : -9223372036854775808 ≤ n) (hn : n ≤ 9223372036854775807) (_ : -9223372036854775808 ≤ i) (_ : i ≤ 9223372036854775807) (hs : s0.size ≤ maxLen) (h : n0 ≤ maxLen ∧ ∃ t, StrsIn w a0 n0 t) (hT : HasK w) (h0 : 0 < w.heap.size) :
    Calls Tryd.prog 5 #[.string old, .string root, .int .i64 n, .int .i64 i, .string s0, .slice a0 n0 c0] w fun e w' => e = .returned (.bool true) ∧ Below w.heap.size w w' := by
  obtain ⟨l1, t, hI⟩ := h
  exact ver_walk old root n i s0 a0 n0 c0 t ho hr hn hs l1 w hI ⟨hT, h0⟩
end Go.Proofs.YtoaaelnmbpmbeaaDoor
