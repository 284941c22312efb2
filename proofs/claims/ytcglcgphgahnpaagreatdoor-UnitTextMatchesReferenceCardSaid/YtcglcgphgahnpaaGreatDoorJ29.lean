/-
  The contracts of the statements' own helpers: pick and NumberFrom.
-/
import Derived.Test.YtcglcgphgahnpaaGreatDoorJ05
set_option maxRecDepth 100000
set_option maxHeartbeats 16000000
namespace Go.Proofs.YtcglcgphgahnpaaGreatDoor.W1
open Go Go.Proofs Go.RowKit Go.Lib
theorem bytes_ext {a b : ByteArray} (h : a.data.toList = b.data.toList) : a = b := ByteArray.ext (Array.toList_inj.1 h)
theorem str_ne {a b : ByteArray} (h : ¬ a = b) : (a.toList == b.toList) = false := by
 rw [beq_eq_false_iff_ne, ByteArray.toList_eq, ByteArray.toList_eq]
 exact fun e => h (bytes_ext e)
end Go.Proofs.YtcglcgphgahnpaaGreatDoor.W1
