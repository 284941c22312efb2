/-
  Layer 9: the parts of a stream, plain: what a stream, its sizes and its lows must be; each part is valid and follows the one before it; the parts are the stream.
-/
import Derived.Test.YtnpfhcnjkekhbaaDoorProg
import Derived.Test.YtnpfhcnjkekhbaaDoorK12
import Derived.Deep.RegionHeld3
import Derived.Lib.QuietBelow
import Derived.Deep.DeepCutAuto
import Derived.Deep.QuietTactic
import Derived.Laws.Rows
import Derived.Laws.OwnMore
import Derived.OwnWalk
import Derived.WalkKit
import Derived.WalkLawsBesides
import Derived.Outline
import Derived.Lib.Hide
import Derived.Below
import Derived.BigQuiet
import Derived.Lib.Varint
set_option maxRecDepth 100000
set_option maxHeartbeats 16000000
namespace Go.Proofs.YtnpfhcnjkekhbaaDoor
open Go Go.Proofs Go.RowKit Go.Lib
theorem splOk_zero (ag : Int) (l : List S6) (c : List Int) : SplOk (pick8 ag 6) (strL ag l) (cutL (strN l) c) (List.replicate (cutL (strN l) c).length 0) :=
 splOk_made ag l c _ (by simp) (fun v hv => by rw [List.eq_of_mem_replicate hv]; omega) fun i hi => by
  rw [List.length_replicate] at hi
  have e : (List.replicate (cutL ((strN l : Nat) : Int) c).length (0 : Int)).getD i 0 = 0 := by
   rw [List.getD_eq_getElem?_getD, List.getElem?_replicate, if_pos hi]
   rfl
  rw [e]
  exact (minT_bd _ fun e he => str_tr ag l e (List.mem_of_mem_drop he)).1
end Go.Proofs.YtnpfhcnjkekhbaaDoor
