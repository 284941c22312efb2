/-
  The contracts of the statements' own helpers: pick and NumberFrom.
-/
import Derived.Test.YtcglcgphgahnpaaGreatDoorProg
import Derived.WalkKit
import Derived.WalkLawsBesides
import Derived.Outline
import Derived.Lib.Hide
import Derived.Lib.Strings
import Derived.RangeFuncRecord
set_option maxRecDepth 100000
set_option maxHeartbeats 16000000
namespace Go.Proofs.YtcglcgphgahnpaaGreatDoor.W1
open Go Go.Proofs Go.RowKit Go.Lib
theorem slice_to {P : Program} (t : TypeId) (hu : P.underlying t = some .string) (s : ByteArray) (h : Int) (k : Nat) (hk : h = (k : Int)) (hs : k ≤ s.size) (r : ByteArray) (hr : s.extract 0 k = r) (w : World) :
 (Instr.slice t (.string s) none (some (.int .i64 h)) none).run P w = .ok (.string r) w := by
 subst hk hr
 have := run_slice_string_h (P := P) w t s hu .i64 (k : Int) (by omega) (by omega)
 simpa using this
theorem append_data (a b : ByteArray) : (a ++ b).data.toList = a.data.toList ++ b.data.toList := by simp [ByteArray.data_append]
def pickI (c n : Int) : Int := if c < 0 then (-(c + 1)) % n else c % n
end Go.Proofs.YtcglcgphgahnpaaGreatDoor.W1
