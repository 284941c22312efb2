/-
  Plain mathematics of layer 5: the encoding of a quantity, and how it is read.
-/
import Derived.Test.YtcglcgphgahnpaaGreatDoorJ18
import Derived.Test.YtcglcgphgahnpaaGreatDoorJ32
import Derived.Test.YtcglcgphgahnpaaGreatDoorJ33
set_option maxRecDepth 100000
set_option maxHeartbeats 16000000
namespace Go.Proofs.YtcglcgphgahnpaaGreatDoor
theorem encU_size (n d : ByteArray) (t b m c : Int) : (encU n d t b m c).size = (W1.putS n).size + (W1.putS d).size + (W1.encS t).size + (W1.encS b).size + (W1.encS m).size + (W1.encS c).size := by
 unfold encU
 simp only [ByteArray.size_append]
end Go.Proofs.YtcglcgphgahnpaaGreatDoor
