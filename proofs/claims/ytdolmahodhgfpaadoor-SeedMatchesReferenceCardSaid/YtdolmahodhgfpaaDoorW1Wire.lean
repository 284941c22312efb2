/-
  What is embedded is decoded: Int and String at an offset where an encoding begins.
-/
import Derived.Test.YtdolmahodhgfpaaDoorW1Str
import Derived.Test.YtdolmahodhgfpaaDoorW1Base
namespace Go.Proofs.YtdolmahodhgfpaaDoor.W1
open Go Go.Proofs Go.RowKit Go.Lib

theorem encS_bytes (x : Int) : (encS x).data.toList = uvarint (zigzag x) := rfl
theorem encS_len (x : Int) : (uvarint (zigzag x)).length = (encS x).size := by rw [encS_size, uvarint_size]

theorem encS_pos' (x : Int) : 1 ≤ (encS x).size := by rw [encS_size]; exact digs_pos _

/-- The bytes of a string's encoding. -/
def putS (t : ByteArray) : ByteArray := encS (t.size : Int) ++ t
theorem putS_size (t : ByteArray) : (putS t).size = (encS (t.size : Int)).size + t.size := by unfold putS; simp
theorem putS_bytes (t : ByteArray) : (putS t).data.toList = uvarint (zigzag (t.size : Int)) ++ t.data.toList := by
  unfold putS; rw [append_data, encS_bytes]

theorem drop_take_mid (a b c l : List UInt8) (n : Nat) (h : l.drop n = a ++ (b ++ c)) : (l.drop (n + a.length)).take b.length = b := by
  rw [← List.drop_drop, h, List.drop_left, List.take_left]

theorem putString_yes (t : ByteArray) (h : t.size ≤ 65536) (w : World) :
    Calls Tryd.prog 27 #[.string t] w fun e w' => e = .returned (.tuple #[.string (putS t), .int .i64 0]) ∧ Below w.heap.size w w' := putString_ok t h w
theorem putS_le (t : ByteArray) (h : t.size ≤ 65536) : (putS t).size ≤ t.size + 9 := by
  rw [putS_size]; have := encS_size_le (t.size : Int) (by omega) (by omega); omega
end Go.Proofs.YtdolmahodhgfpaaDoor.W1
