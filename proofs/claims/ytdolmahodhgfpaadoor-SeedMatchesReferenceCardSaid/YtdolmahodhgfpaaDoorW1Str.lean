/-
  The contracts of wire.String and wire.PutString.
-/
import Derived.Test.YtdolmahodhgfpaaDoorW1Get
import Derived.Test.YtdolmahodhgfpaaDoorW1Put
import Derived.BigQuiet
import Derived.Deep.QuietTactic
namespace Go.Proofs.YtdolmahodhgfpaaDoor.W1
open Go Go.Proofs Go.RowKit Go.Lib

theorem encS_size_le (x : Int) (h0 : -4611686018427387903 ≤ x) (h1 : x ≤ 4611686018427387903) : (encS x).size ≤ 9 := by
  rw [encS_size]; exact digs_length9 (by have := zigzag_le h0 h1; unfold maxZ at this; omega)
theorem slice_at {P : Program} (t : TypeId) (hu : P.underlying t = some .string) (s : ByteArray) (i j : Int) (a b : Nat) (ha : i = (a : Int)) (hb : j = (b : Int)) (h1 : a ≤ b) (h2 : b ≤ s.size) (w : World) :
    (Instr.slice t (.string s) (some (.int .i64 i)) (some (.int .i64 j)) none).run P w = .ok (.string (s.extract a b)) w := by
  subst ha hb
  have := run_slice_string (P := P) w t s .i64 .i64 (a : Int) (b : Int) hu (by omega) (by omega) (by omega)
  simpa using this

theorem scan_fits {s : ByteArray} {p z n : Nat} (hp : p ≤ s.size) (h : scan 0 0 (s.data.toList.drop p) = some (z, n)) : p + n ≤ s.size := by
  obtain ⟨_, hn, hpre⟩ := scan_is_enc h
  have := hpre.length_le
  simp at this
  omega

set_option maxHeartbeats 1000000 in
theorem putString_no (s : ByteArray) (h : 65536 < s.size) (w : World) :
    Calls Tryd.prog 27 #[.string s] w fun e w' => e = .returned (.tuple #[.string ByteArray.empty, .int .i64 10]) ∧ w = w' := by
  have h' : (65536 : Int) < (s.size : Int) := by omega
  go_enter Tryd.func27, Tryd.ntmps27
  go_wp2
  go_ret2
  exact ⟨rfl, rfl⟩

set_option maxHeartbeats 1000000 in
theorem putString_ok (s : ByteArray) (h : s.size ≤ 65536) (w : World) :
    Calls Tryd.prog 27 #[.string s] w fun e w' => e = .returned (.tuple #[.string (encS s.size ++ s), .int .i64 0]) ∧ Below w.heap.size w w' := by
  have h' : (s.size : Int) ≤ 65536 := by omega
  have hcat : (encS (s.size : Int)).size + s.size ≤ 9223372036854775807 := by have := encS_size_le (s.size : Int) (by omega) (by omega); omega
  go_enter Tryd.func27, Tryd.ntmps27
  go_wp2_with (go_at_call 28; refine (putInt_yes (s.size : Int) (by omega) (by omega) _).mono ?_; rintro e w' ⟨rfl, hb⟩)
  go_ret2
  exact ⟨rfl, hb⟩
end Go.Proofs.YtdolmahodhgfpaaDoor.W1
