/-
  What is embedded is decoded: Int and String at an offset where an encoding begins.
-/
import Derived.Test.YtcglcgphgahnpaaGreatDoorJ17
import Derived.Test.YtcglcgphgahnpaaGreatDoorJ28
import Derived.Test.YtcglcgphgahnpaaGreatDoorJ29
set_option maxRecDepth 100000
set_option maxHeartbeats 16000000
namespace Go.Proofs.YtcglcgphgahnpaaGreatDoor.W1
open Go Go.Proofs Go.RowKit Go.Lib
theorem encS_pos' (x : Int) : 1 ≤ (encS x).size := by rw [encS_size]; exact digs_pos _
end Go.Proofs.YtcglcgphgahnpaaGreatDoor.W1
