/-
  Layer 8: ClockReal over the landed program.
-/
import Derived.Test.YtckajmdghafbeaaDoorK05
import Derived.Test.YtckajmdghafbeaaDoorK10
import Derived.ChangeKeysEq
import Derived.Lib.QuietBelow
import Derived.StillTail
import Derived.WalkKit
import Derived.WalkLawsBesides
import Derived.Outline
import Derived.Lib.Hide
import Derived.Below
import Derived.BigQuiet
import Derived.Deep.QuietTactic
import Derived.Deep.RegionHeld3
import Derived.Deep.DeepCutAuto
import Derived.Laws.Rows
import Derived.Laws.OwnMore
import Derived.OwnWalk
import Derived.Laws.StructEq
import Derived.Laws.Bits128
import Derived.RangeFuncNested
import Derived.RangeFuncBound
import Derived.RangeFuncCalls
import Derived.RangeFuncLeaves
import Derived.RangeFuncFrom
import Derived.RangeFuncRecord
import Derived.OwnWalkIn
import Derived.TacticsInMore
import Derived.LoopNIn
import Derived.LoopIn
import Derived.Maps.Own
import Derived.Maps.OwnOps
import Derived.TacticsIn
import Derived.OrdersIn
import Derived.Sort.CutIn
namespace Go.Proofs.YtckajmdghafbeaaDoor
open Go Go.Proofs Go.RowKit Go.Lib

theorem agrees_ok8 : AgreesOk8 21 := fun v x ad ad2 c c2 l y m w h1 h2 h3 h4 h5 h6 h7 h8 => agreesP_u v x ad ad2 c c2 l y m w h1 h2 h3 h4 h5 h6 h7 h8
theorem real_u (n : Int) (ad : Option Addr) (c : Nat) (l : List D4) (agents less : Int) (h0 : -9223372036854775808 ≤ n) (h1 : n ≤ 9223372036854775807) (hl : l.length ≤ maxLen) (hdi : ∀ d ∈ l, d.fit) (m0 : -9223372036854775808 ≤ less) (m1 : less ≤ 9223372036854775807) (w : World) (hR : Rdy w) (hI : RL KD w ad l) :
    Calls Tryd.prog 6 #[.int .i64 n, .slice ad l.length c, .int .i64 agents, .int .i64 less] w fun e w' => e = .returned (.bool true) ∧ Below w.heap.size w w' :=
  real_any sane_any reading_u agrees_ok8 n ad c l agents less h0 h1 hl hdi m0 m1 w hR hI
end Go.Proofs.YtckajmdghafbeaaDoor
