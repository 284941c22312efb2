/-
  The contracts of wire.String and wire.PutString. What is embedded is decoded: Int and String at an offset where an encoding begins.
-/
import Derived.Test.YtcglcgphgahnpaaGreatDoorJ03
import Derived.Test.YtcglcgphgahnpaaGreatDoorJ04
import Derived.Test.YtcglcgphgahnpaaGreatDoorJ05
import Derived.Test.YtcglcgphgahnpaaGreatDoorJ10
import Derived.BigQuiet
import Derived.Deep.QuietTactic
set_option maxRecDepth 100000
set_option maxHeartbeats 16000000
namespace Go.Proofs.YtcglcgphgahnpaaGreatDoor.W1
open Go Go.Proofs Go.RowKit Go.Lib
theorem encS_size_le (x : Int) (h0 : -4611686018427387903 ≤ x) (h1 : x ≤ 4611686018427387903) : (encS x).size ≤ 9 := by
 rw [encS_size]; exact digs_length9 (by have := zigzag_le h0 h1; unfold maxZ at this; omega)
theorem slice_at {P : Program} (t : TypeId) (hu : P.underlying t = some .string) (s : ByteArray) (i j : Int) (a b : Nat) (ha : i = (a : Int)) (hb : j = (b : Int)) (h1 : a ≤ b) (h2 : b ≤ s.size) (w : World) :
 (Instr.slice t (.string s) (some (.int .i64 i)) (some (.int .i64 j)) none).run P w = .ok (.string (s.extract a b)) w := by
 subst ha hb
 have := run_slice_string (P := P) w t s .i64 .i64 (a : Int) (b : Int) hu (by omega) (by omega) (by omega)
 simpa using this
theorem int_some (s : ByteArray) (hs : s.size ≤ maxLen) (p : Nat) (hp : p ≤ s.size) (z n : Nat) (h : scan 0 0 (s.data.toList.drop p) = some (z, n)) (w : World) :
 Calls Tryz.prog 77 #[.string s, .int .i64 (p : Nat)] w fun e w' => e = .returned (.tuple #[.int .i64 (unz z), .int .i64 ((p : Int) + (n : Int)), .int .i64 0]) ∧ w = w' := by
 have := int_any s hs p hp w
 rw [h] at this
 exact this
theorem int_none (s : ByteArray) (hs : s.size ≤ maxLen) (p : Nat) (hp : p ≤ s.size) (h : scan 0 0 (s.data.toList.drop p) = none) (w : World) :
 Calls Tryz.prog 77 #[.string s, .int .i64 (p : Nat)] w fun e w' => e = .returned (.tuple #[.int .i64 0, .int .i64 0, .int .i64 10]) ∧ w = w' := by
 have := int_any s hs p hp w
 rw [h] at this
 exact this
theorem scan_fits {s : ByteArray} {p z n : Nat} (hp : p ≤ s.size) (h : scan 0 0 (s.data.toList.drop p) = some (z, n)) : p + n ≤ s.size := by
 obtain ⟨_, hn, hpre⟩ := scan_is_enc h
 have := hpre.length_le
 simp at this
 omega
theorem string_none (s : ByteArray) (hs : s.size ≤ maxLen) (p : Nat) (hp : p ≤ s.size) (h : scan 0 0 (s.data.toList.drop p) = none) (w : World) :
 Calls Tryz.prog 76 #[.string s, .int .i64 (p : Nat)] w fun e w' => e = .returned (.tuple #[.string ByteArray.empty, .int .i64 0, .int .i64 10]) ∧ w = w' := by
 have H := hid h
 clear h
 go_enter Tryz.func76, Tryz.ntmps76
 go_wp2_with (go_at_call 77; refine (int_none s hs p hp H.out _).mono ?_; rintro e w' ⟨rfl, rfl⟩)
 go_ret3
 exact ⟨rfl, rfl⟩
theorem string_bad (s : ByteArray) (hs : s.size ≤ maxLen) (p : Nat) (hp : p ≤ s.size) (z n : Nat) (h : scan 0 0 (s.data.toList.drop p) = some (z, n))
 (hbad : unz z < 0 ∨ 65536 < unz z ∨ (s.size : Int) - ((p : Int) + (n : Int)) < unz z) (w : World) :
 Calls Tryz.prog 76 #[.string s, .int .i64 (p : Nat)] w fun e w' => e = .returned (.tuple #[.string ByteArray.empty, .int .i64 0, .int .i64 10]) ∧ w = w' := by
 have hf := scan_fits hp h
 have hz := (scan_is_enc h).1
 obtain ⟨hu1, hu2⟩ := unz_range hz
 have H := hid h
 clear h hz
 have hs2 := hs
 unfold maxLen at hs2
 have HS := hid hs
 clear hs
 obtain ⟨u, hu⟩ : ∃ u, unz z = u := ⟨_, rfl⟩
 rw [hu] at hbad hu1 hu2
 have HU := hid hu
 clear hu
 by_cases h1 : u < 0
 · clear hbad
   go_enter Tryz.func76, Tryz.ntmps76
   go_wp2_with (go_at_call 77; refine (int_some s HS.out p hp z n H.out _).mono ?_; rw [HU.out]; rintro e w' ⟨rfl, rfl⟩)
   go_ret3
   exact ⟨rfl, rfl⟩
 by_cases h2 : 65536 < u
 · clear hbad
   go_enter Tryz.func76, Tryz.ntmps76
   go_wp2_with (go_at_call 77; refine (int_some s HS.out p hp z n H.out _).mono ?_; rw [HU.out]; rintro e w' ⟨rfl, rfl⟩)
   go_ret3
   exact ⟨rfl, rfl⟩
 have h3 : (s.size : Int) - ((p : Int) + (n : Int)) < u := by omega
 clear hbad
 go_enter Tryz.func76, Tryz.ntmps76
 go_wp2_with (go_at_call 77; refine (int_some s HS.out p hp z n H.out _).mono ?_; rw [HU.out]; rintro e w' ⟨rfl, rfl⟩)
 go_ret3
 exact ⟨rfl, rfl⟩
theorem string_ok (s : ByteArray) (hs : s.size ≤ maxLen) (p : Nat) (hp : p ≤ s.size) (z n m : Nat) (h : scan 0 0 (s.data.toList.drop p) = some (z, n))
 (hm : unz z = (m : Int)) (h1 : m ≤ 65536) (h2 : p + n + m ≤ s.size) (w : World) :
 Calls Tryz.prog 76 #[.string s, .int .i64 (p : Nat)] w fun e w' => e = .returned (.tuple #[.string (s.extract (p + n) (p + n + m)), .int .i64 ((p : Int) + (n : Int) + (m : Int)), .int .i64 0]) ∧ Below w.heap.size w w' := by
 have H := hid h
 have HM := hid hm
 have hs2 := hs
 unfold maxLen at hs2
 have HS := hid hs
 clear hs h hm
 have hext : (s.extract (p + n) (p + n + m)).size ≤ 281474976710656 := by simp; omega
 have h1' : (m : Int) ≤ 65536 := by omega
 have h2' : (m : Int) ≤ (s.size : Int) - ((p : Int) + (n : Int)) := by omega
 have hsl := fun w' => slice_at (P := Tryz.prog) 9 Tryz.underlying9 s ((p : Int) + (n : Int)) ((p : Int) + (n : Int) + (m : Int)) (p + n) (p + n + m) (by omega) (by omega) (by omega) h2 w'
 go_enter Tryz.func76, Tryz.ntmps76
 go_wp2_with (go_at_call 77; refine (int_some s HS.out p hp z n H.out _).mono ?_; rw [HM.out]; rintro e w' ⟨rfl, rfl⟩)
 refine (clone_any _ _ hext).mono ?_
 rintro e w' ⟨rfl, hb⟩
 go_wp2
 go_ret3
 exact ⟨rfl, hb⟩
theorem putString_ok (s : ByteArray) (h : s.size ≤ 65536) (w : World) :
 Calls Tryz.prog 61 #[.string s] w fun e w' => e = .returned (.tuple #[.string (encS s.size ++ s), .int .i64 0]) ∧ Below w.heap.size w w' := by
 have h' : (s.size : Int) ≤ 65536 := by omega
 have hcat : (encS (s.size : Int)).size + s.size ≤ 9223372036854775807 := by have := encS_size_le (s.size : Int) (by omega) (by omega); omega
 go_enter Tryz.func61, Tryz.ntmps61
 go_wp2_with (go_at_call 62; refine (putInt_yes (s.size : Int) (by omega) (by omega) _).mono ?_; rintro e w' ⟨rfl, hb⟩)
 go_ret2
 exact ⟨rfl, hb⟩
theorem encS_bytes (x : Int) : (encS x).data.toList = uvarint (zigzag x) := rfl
theorem encS_len (x : Int) : (uvarint (zigzag x)).length = (encS x).size := by rw [encS_size, uvarint_size]
def putS (t : ByteArray) : ByteArray := encS (t.size : Int) ++ t
theorem putS_size (t : ByteArray) : (putS t).size = (encS (t.size : Int)).size + t.size := by unfold putS; simp
theorem putS_bytes (t : ByteArray) : (putS t).data.toList = uvarint (zigzag (t.size : Int)) ++ t.data.toList := by
 unfold putS; rw [append_data, encS_bytes]
theorem putString_yes (t : ByteArray) (h : t.size ≤ 65536) (w : World) :
 Calls Tryz.prog 61 #[.string t] w fun e w' => e = .returned (.tuple #[.string (putS t), .int .i64 0]) ∧ Below w.heap.size w w' := putString_ok t h w
theorem putS_le (t : ByteArray) (h : t.size ≤ 65536) : (putS t).size ≤ t.size + 9 := by
 rw [putS_size]; have := encS_size_le (t.size : Int) (by omega) (by omega); omega
end Go.Proofs.YtcglcgphgahnpaaGreatDoor.W1
