/-
  Plain mathematics of layer 5: which texts are quantities, the text of a quantity, and the quantity of a text.
-/
import Derived.Test.YtcglcgphgahnpaaGreatDoorProg
import Derived.Test.YtcglcgphgahnpaaGreatDoorK11
import Derived.Lib.ConvBytes
import Derived.Lib.SlBytesRow
import Derived.Laws.Rows
import Derived.Below
import Derived.OwnWalk
import Derived.OwnWalkIn
import Derived.BigQuiet
import Derived.IntWalk
import Derived.RegionTactic
import Derived.Deep.RegionLaw
import Derived.Deep.RegionWith
import Derived.Deep.RegionHeld3
import Derived.Deep.QuietTactic
import Derived.Shelf.Abstract
import Derived.Laws.AppendOwn
import Derived.WalkKit
import Derived.WalkLawsBesides
import Derived.Outline
import Derived.Lib.Hide
import Derived.Laws.MakeOwn
set_option maxRecDepth 100000
set_option maxHeartbeats 16000000
namespace Go.Proofs.YtcglcgphgahnpaaGreatDoor
theorem parU_sound {s : ByteArray} (h : parUB s = true) :
 okU (cutN (fracT s)) (cutD (fracT s)) (expT s).1 (expT s).2.1 (expT s).2.2.1 (expT s).2.2.2.1 = true ∧ textU (cutN (fracT s)) (cutD (fracT s)) (expT s).1 (expT s).2.1 (expT s).2.2.1 (expT s).2.2.2.1 = s := by
 unfold parUB at h
 simp only [Bool.and_eq_true, decide_eq_true_eq] at h
 obtain ⟨h1, h2, h3⟩ := h
 refine ⟨h3, ?_⟩
 obtain ⟨u1, _⟩ := readU_sound (l := restL (bytesL s)) h1
 have hp : printB (cutN (fracT s)) (cutD (fracT s)) = fracT s := by
  unfold parseB at h2
  rw [Bool.and_eq_true] at h2
  exact of_decide_eq_true h2.2
 refine bytesL_inj ?_
 rw [bytesL_textU h3, hp, show unitL (expT s).1 (expT s).2.1 (expT s).2.2.1 (expT s).2.2.2.1 = _ from u1]
 unfold fracT
 rw [bytesL_byteL, head_rest]
 intro x hx
 have hm : x ∈ bytesL s := by
  rw [← head_rest (bytesL s)]
  exact List.mem_append.2 (.inl hx)
 unfold bytesL at hm
 obtain ⟨y, _, rfl⟩ := List.mem_map.1 hm
 exact y.toNat_lt
end Go.Proofs.YtcglcgphgahnpaaGreatDoor
