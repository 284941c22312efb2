/-
  The contracts of wire.String and wire.PutString.
-/
import Derived.Test.YtkilmnhciigkcaaDoorGet
import Derived.Test.YtkilmnhciigkcaaDoorPut
import Derived.Test.YtkilmnhciigkcaaDoorClone
import Derived.BigQuiet
import Derived.Deep.QuietTactic
namespace Go.Proofs.YtkilmnhciigkcaaDoor
open Go Go.Proofs Go.RowKit Go.Lib

theorem encS_size_le (x : Int) (h0 : -4611686018427387903 ≤ x) (h1 : x ≤ 4611686018427387903) : (encS x).size ≤ 9 := by
  rw [encS_size]; exact digs_length9 (by have := zigzag_le h0 h1; unfold maxZ at this; omega)
theorem slice_at {P : Program} (t : TypeId) (hu : P.underlying t = some .string) (s : ByteArray) (i j : Int) (a b : Nat) (ha : i = (a : Int)) (hb : j = (b : Int)) (h1 : a ≤ b) (h2 : b ≤ s.size) (w : World) :
    (Instr.slice t (.string s) (some (.int .i64 i)) (some (.int .i64 j)) none).run P w = .ok (.string (s.extract a b)) w := by
  subst ha hb
  have := run_slice_string (P := P) w t s .i64 .i64 (a : Int) (b : Int) hu (by omega) (by omega) (by omega)
  simpa using this

theorem int_some (s : ByteArray) (hs : s.size ≤ maxLen) (p : Nat) (hp : p ≤ s.size) (z n : Nat) (h : scan 0 0 (s.data.toList.drop p) = some (z, n)) (w : World) :
    Calls Tryd.prog 15 #[.string s, .int .i64 (p : Nat)] w fun e w' => e = .returned (.tuple #[.int .i64 (unz z), .int .i64 ((p : Int) + (n : Int)), .int .i64 0]) ∧ w = w' := by
  have := int_any s hs p hp w
  rw [h] at this
  exact this
theorem int_none (s : ByteArray) (hs : s.size ≤ maxLen) (p : Nat) (hp : p ≤ s.size) (h : scan 0 0 (s.data.toList.drop p) = none) (w : World) :
    Calls Tryd.prog 15 #[.string s, .int .i64 (p : Nat)] w fun e w' => e = .returned (.tuple #[.int .i64 0, .int .i64 0, .int .i64 10]) ∧ w = w' := by
  have := int_any s hs p hp w
  rw [h] at this
  exact this
theorem scan_fits {s : ByteArray} {p z n : Nat} (hp : p ≤ s.size) (h : scan 0 0 (s.data.toList.drop p) = some (z, n)) : p + n ≤ s.size := by
  obtain ⟨_, hn, hpre⟩ := scan_is_enc h
  have := hpre.length_le
  simp at this
  omega

set_option maxHeartbeats 1000000 in
theorem string_arg (s : ByteArray) (a : Int) (h : a < 0 ∨ (s.size : Int) < a) (w : World) :
    Calls Tryd.prog 17 #[.string s, .int .i64 a] w fun e w' => e = .returned (.tuple #[.string ByteArray.empty, .int .i64 0, .int .i64 2]) ∧ w = w' := by
  go_enter Tryd.func17, Tryd.ntmps17
  go_wp2_with (go_at_call 15; refine (int_arg s a h _).mono ?_; rintro e w' ⟨rfl, rfl⟩)
  go_ret3
  exact ⟨rfl, rfl⟩

set_option maxHeartbeats 1000000 in
theorem string_none (s : ByteArray) (hs : s.size ≤ maxLen) (p : Nat) (hp : p ≤ s.size) (h : scan 0 0 (s.data.toList.drop p) = none) (w : World) :
    Calls Tryd.prog 17 #[.string s, .int .i64 (p : Nat)] w fun e w' => e = .returned (.tuple #[.string ByteArray.empty, .int .i64 0, .int .i64 10]) ∧ w = w' := by
  have H := Lib.hid h
  clear h
  go_enter Tryd.func17, Tryd.ntmps17
  go_wp2_with (go_at_call 15; refine (int_none s hs p hp H.out _).mono ?_; rintro e w' ⟨rfl, rfl⟩)
  go_ret3
  exact ⟨rfl, rfl⟩

set_option maxHeartbeats 2000000 in
theorem string_bad (s : ByteArray) (hs : s.size ≤ maxLen) (p : Nat) (hp : p ≤ s.size) (z n : Nat) (h : scan 0 0 (s.data.toList.drop p) = some (z, n))
    (hbad : unz z < 0 ∨ 65536 < unz z ∨ (s.size : Int) - ((p : Int) + (n : Int)) < unz z) (w : World) :
    Calls Tryd.prog 17 #[.string s, .int .i64 (p : Nat)] w fun e w' => e = .returned (.tuple #[.string ByteArray.empty, .int .i64 0, .int .i64 10]) ∧ w = w' := by
  have hf := scan_fits hp h
  have hz := (scan_is_enc h).1
  obtain ⟨hu1, hu2⟩ := unz_range hz
  have H := Lib.hid h
  clear h hz
  have hs2 := hs
  unfold maxLen at hs2
  have HS := Lib.hid hs
  clear hs
  obtain ⟨u, hu⟩ : ∃ u, unz z = u := ⟨_, rfl⟩
  rw [hu] at hbad hu1 hu2
  have HU := Lib.hid hu
  clear hu
  by_cases h1 : u < 0
  · clear hbad
    go_enter Tryd.func17, Tryd.ntmps17
    go_wp2_with (go_at_call 15; refine (int_some s HS.out p hp z n H.out _).mono ?_; rw [HU.out]; rintro e w' ⟨rfl, rfl⟩)
    go_ret3
    exact ⟨rfl, rfl⟩
  · by_cases h2 : 65536 < u
    · clear hbad
      go_enter Tryd.func17, Tryd.ntmps17
      go_wp2_with (go_at_call 15; refine (int_some s HS.out p hp z n H.out _).mono ?_; rw [HU.out]; rintro e w' ⟨rfl, rfl⟩)
      go_ret3
      exact ⟨rfl, rfl⟩
    · have h3 : (s.size : Int) - ((p : Int) + (n : Int)) < u := by omega
      clear hbad
      go_enter Tryd.func17, Tryd.ntmps17
      go_wp2_with (go_at_call 15; refine (int_some s HS.out p hp z n H.out _).mono ?_; rw [HU.out]; rintro e w' ⟨rfl, rfl⟩)
      go_ret3
      exact ⟨rfl, rfl⟩

set_option maxHeartbeats 2000000 in
theorem string_ok (s : ByteArray) (hs : s.size ≤ maxLen) (p : Nat) (hp : p ≤ s.size) (z n m : Nat) (h : scan 0 0 (s.data.toList.drop p) = some (z, n))
    (hm : unz z = (m : Int)) (h1 : m ≤ 65536) (h2 : p + n + m ≤ s.size) (w : World) :
    Calls Tryd.prog 17 #[.string s, .int .i64 (p : Nat)] w fun e w' => e = .returned (.tuple #[.string (s.extract (p + n) (p + n + m)), .int .i64 ((p : Int) + (n : Int) + (m : Int)), .int .i64 0]) ∧ Below w.heap.size w w' := by
  have H := Lib.hid h
  have HM := Lib.hid hm
  have hs2 := hs
  unfold maxLen at hs2
  have HS := Lib.hid hs
  clear hs h hm
  have hext : (s.extract (p + n) (p + n + m)).size ≤ 281474976710656 := by simp; omega
  have h1' : (m : Int) ≤ 65536 := by omega
  have h2' : (m : Int) ≤ (s.size : Int) - ((p : Int) + (n : Int)) := by omega
  have hsl := fun w' => slice_at (P := Tryd.prog) 9 Tryd.underlying9 s ((p : Int) + (n : Int)) ((p : Int) + (n : Int) + (m : Int)) (p + n) (p + n + m) (by omega) (by omega) (by omega) h2 w'
  go_enter Tryd.func17, Tryd.ntmps17
  go_wp2_with (go_at_call 15; refine (int_some s HS.out p hp z n H.out _).mono ?_; rw [HM.out]; rintro e w' ⟨rfl, rfl⟩)
  refine (clone_any _ _ hext).mono ?_
  rintro e w' ⟨rfl, hb⟩
  go_wp2
  go_ret3
  exact ⟨rfl, hb⟩

set_option maxHeartbeats 1000000 in
theorem putString_no (s : ByteArray) (h : 65536 < s.size) (w : World) :
    Calls Tryd.prog 19 #[.string s] w fun e w' => e = .returned (.tuple #[.string ByteArray.empty, .int .i64 10]) ∧ w = w' := by
  have h' : (65536 : Int) < (s.size : Int) := by omega
  go_enter Tryd.func19, Tryd.ntmps19
  go_wp2
  go_ret2
  exact ⟨rfl, rfl⟩

set_option maxHeartbeats 1000000 in
theorem putString_ok (s : ByteArray) (h : s.size ≤ 65536) (w : World) :
    Calls Tryd.prog 19 #[.string s] w fun e w' => e = .returned (.tuple #[.string (encS s.size ++ s), .int .i64 0]) ∧ Below w.heap.size w w' := by
  have h' : (s.size : Int) ≤ 65536 := by omega
  have hcat : (encS (s.size : Int)).size + s.size ≤ 9223372036854775807 := by have := encS_size_le (s.size : Int) (by omega) (by omega); omega
  go_enter Tryd.func19, Tryd.ntmps19
  go_wp2_with (go_at_call 12; refine (putInt_yes (s.size : Int) (by omega) (by omega) _).mono ?_; rintro e w' ⟨rfl, hb⟩)
  go_ret2
  exact ⟨rfl, hb⟩
end Go.Proofs.YtkilmnhciigkcaaDoor
