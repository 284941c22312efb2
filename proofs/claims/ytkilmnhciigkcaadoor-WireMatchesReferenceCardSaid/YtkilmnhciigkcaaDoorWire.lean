/-
  What is embedded is decoded: Int and String at an offset where an encoding begins.
-/
import Derived.Test.YtkilmnhciigkcaaDoorStr
import Derived.Test.YtkilmnhciigkcaaDoorBase
namespace Go.Proofs.YtkilmnhciigkcaaDoor
open Go Go.Proofs Go.RowKit Go.Lib

theorem encS_bytes (x : Int) : (encS x).data.toList = uvarint (zigzag x) := rfl
theorem encS_len (x : Int) : (uvarint (zigzag x)).length = (encS x).size := by rw [encS_size, uvarint_size]

theorem encS_pos' (x : Int) : 1 ≤ (encS x).size := by rw [encS_size]; exact digs_pos _

/-- The bytes of a string's encoding. -/
def putS (t : ByteArray) : ByteArray := encS (t.size : Int) ++ t
theorem putS_size (t : ByteArray) : (putS t).size = (encS (t.size : Int)).size + t.size := by unfold putS; simp
theorem putS_bytes (t : ByteArray) : (putS t).data.toList = uvarint (zigzag (t.size : Int)) ++ t.data.toList := by
  unfold putS; rw [append_data, encS_bytes]

theorem int_at (s : ByteArray) (hs : s.size ≤ maxLen) (p : Nat) (hp : p ≤ s.size) (x : Int) (h0 : -4611686018427387903 ≤ x) (h1 : x ≤ 4611686018427387903) (q : List UInt8)
    (h : s.data.toList.drop p = (encS x).data.toList ++ q) (w : World) :
    Calls Tryd.prog 15 #[.string s, .int .i64 (p : Nat)] w fun e w' => e = .returned (.tuple #[.int .i64 x, .int .i64 ((p : Int) + ((encS x).size : Int)), .int .i64 0]) ∧ w = w' := by
  have hsc : scan 0 0 (s.data.toList.drop p) = some (zigzag x, (encS x).size) := by
    rw [h, encS_bytes, scan_of_enc (zigzag_le h0 h1) q, encS_len]
  have := int_some s hs p hp _ _ hsc w
  rwa [unz_zigzag] at this

theorem drop_take_mid (a b c l : List UInt8) (n : Nat) (h : l.drop n = a ++ (b ++ c)) : (l.drop (n + a.length)).take b.length = b := by
  rw [← List.drop_drop, h, List.drop_left, List.take_left]

theorem string_at (s : ByteArray) (hs : s.size ≤ maxLen) (p : Nat) (hp : p ≤ s.size) (t : ByteArray) (ht : t.size ≤ 65536) (q : List UInt8)
    (h : s.data.toList.drop p = (putS t).data.toList ++ q) (w : World) :
    Calls Tryd.prog 17 #[.string s, .int .i64 (p : Nat)] w fun e w' => e = .returned (.tuple #[.string t, .int .i64 ((p : Int) + ((putS t).size : Int)), .int .i64 0]) ∧ Below w.heap.size w w' := by
  rw [putS_bytes, List.append_assoc] at h
  have hsc : scan 0 0 (s.data.toList.drop p) = some (zigzag (t.size : Int), (encS (t.size : Int)).size) := by
    rw [h, scan_of_enc (zigzag_le (by omega) (by omega)) _, encS_len]
  have hlen := congrArg List.length h
  simp only [List.length_drop, List.length_append, encS_len, size_len] at hlen
  have hx : s.extract (p + (encS (t.size : Int)).size) (p + (encS (t.size : Int)).size + t.size) = t := by
    apply bytes_ext
    rw [Lib.extract_data]
    have := drop_take_mid _ _ _ _ _ h
    rw [encS_len, size_len] at this
    rw [show p + (encS (t.size : Int)).size + t.size - (p + (encS (t.size : Int)).size) = t.size by omega]
    exact this
  have := string_ok s hs p hp _ _ t.size hsc (unz_zigzag _) ht (by omega) w
  rw [hx] at this
  have e : (p : Int) + ((encS (t.size : Int)).size : Int) + (t.size : Int) = (p : Int) + ((putS t).size : Int) := by rw [putS_size]; omega
  rwa [e] at this

theorem putString_yes (t : ByteArray) (h : t.size ≤ 65536) (w : World) :
    Calls Tryd.prog 19 #[.string t] w fun e w' => e = .returned (.tuple #[.string (putS t), .int .i64 0]) ∧ Below w.heap.size w w' := putString_ok t h w
theorem putS_le (t : ByteArray) (h : t.size ≤ 65536) : (putS t).size ≤ t.size + 9 := by
  rw [putS_size]; have := encS_size_le (t.size : Int) (by omega) (by omega); omega
end Go.Proofs.YtkilmnhciigkcaaDoor
