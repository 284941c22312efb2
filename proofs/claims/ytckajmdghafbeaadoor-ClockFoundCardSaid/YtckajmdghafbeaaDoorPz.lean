/-
  Layer 8: ClockFound over the landed program.
-/
import Derived.Test.YtckajmdghafbeaaDoorE03
import Derived.Test.YtckajmdghafbeaaDoorK09
import Derived.Test.YtckajmdghafbeaaDoorK10
import Derived.Deep.RegionHeld3
import Derived.Lib.QuietBelow
import Derived.Deep.DeepCutAuto
import Derived.WalkKit
import Derived.WalkLawsBesides
import Derived.Outline
import Derived.Lib.Hide
import Derived.Below
import Derived.BigQuiet
import Derived.Deep.QuietTactic
import Derived.Laws.Rows
import Derived.Laws.OwnMore
import Derived.OwnWalk
import Derived.StillTail
import Derived.Sort.CutIn
import Derived.RangeFuncNested
import Derived.RangeFuncBound
import Derived.RangeFuncCalls
import Derived.RangeFuncLeaves
import Derived.RangeFuncFrom
import Derived.RangeFuncRecord
import Derived.OwnWalkIn
import Derived.TacticsInMore
import Derived.LoopNIn
import Derived.LoopIn
import Derived.TacticsIn
import Derived.OrdersIn
import Derived.Maps.Own
import Derived.Maps.OwnOps
import Derived.Laws.StructEq
import Derived.Laws.Bits128
import Derived.ChangeKeysEq
namespace Go.Proofs.YtckajmdghafbeaaDoor
open Go Go.Proofs Go.RowKit Go.Lib

theorem agrees_okz : AgreesOk8 21 := fun v x ad ad2 c c2 l y m w h1 h2 h3 h4 h5 h6 h7 h8 => agreesP_u v x ad ad2 c c2 l y m w h1 h2 h3 h4 h5 h6 h7 h8
theorem find_okz : FindOk8 31 := fun v x ad ad2 c c2 l y a w h1 h2 h3 h4 h5 h6 h7 h8 => findP_u v x ad ad2 c c2 l y a w h1 h2 h3 h4 h5 h6 h7 h8
theorem valid_okz : ValidClockOk8 29 := fun v x w h1 h2 => validClock_u v x w h1 h2
theorem found_u (n : Int) (ad : Option Addr) (c : Nat) (l : List D4) (b0 b1 b2 : Int) (ad2 : Option Addr) (c2 : Nat) (by_ : List Int) (agent : Int) (h0 : -9223372036854775808 ≤ n) (h1 : n ≤ 9223372036854775807) (hl : l.length ≤ maxLen) (hdi : ∀ d ∈ l, d.fit)
    (p0 : -9223372036854775808 ≤ b0) (p1 : b0 ≤ 9223372036854775807) (q0 : -9223372036854775808 ≤ b1) (q1 : b1 ≤ 9223372036854775807) (r0 : -9223372036854775808 ≤ b2) (r1 : b2 ≤ 9223372036854775807) (hby : by_.length ≤ maxLen) (hbc : by_.length ≤ c2) (hbb : ∀ i (h : i < by_.length), -9223372036854775808 ≤ by_[i] ∧ by_[i] ≤ 9223372036854775807) (m0 : -9223372036854775808 ≤ agent) (m1 : agent ≤ 9223372036854775807) (w : World) (hR : Rdy w) (hI : RL KD w ad l) (hJ : RL KI w ad2 by_) :
    Calls Tryd.prog 7 #[.int .i64 n, .slice ad l.length c, .agg #[.int .i64 b0, .int .i64 b1, .int .i64 b2], .slice ad2 by_.length c2, .int .i64 agent] w fun e w' => e = .returned (.bool true) ∧ Below w.heap.size w w' :=
  found_any sane_any find_okz valid_okz reading_u agrees_okz n ad c l b0 b1 b2 ad2 c2 by_ agent h0 h1 hl hdi p0 p1 q0 q1 r0 r1 hby hbc hbb m0 m1 w hR hI hJ
end Go.Proofs.YtckajmdghafbeaaDoor
