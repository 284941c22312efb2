/-
  Layer 8: ClockShifted over the landed program.
-/
import Derived.Test.YtamefmojocegkaaDoorQb
import Derived.Test.YtamefmojocegkaaDoorK09
import Derived.Test.YtamefmojocegkaaDoorK10
namespace Go.Proofs.YtamefmojocegkaaDoor
open Go Go.Proofs Go.RowKit Go.Lib

theorem agrees_okq : AgreesOk8 21 := fun v x ad ad2 c c2 l y m w h1 h2 h3 h4 h5 h6 h7 h8 => agreesP_u v x ad ad2 c c2 l y m w h1 h2 h3 h4 h5 h6 h7 h8
theorem shifted_u (n : Int) (ad : Option Addr) (c : Nat) (l : List D4) (b0 b1 b2 : Int) (ad2 : Option Addr) (c2 : Nat) (by_ : List Int) (shift agents more out : Int) (h0 : -9223372036854775808 ≤ n) (h1 : n ≤ 9223372036854775807) (hl : l.length ≤ maxLen) (hdi : ∀ d ∈ l, d.fit)
    (p0 : -9223372036854775808 ≤ b0) (p1 : b0 ≤ 9223372036854775807) (q0 : -9223372036854775808 ≤ b1) (q1 : b1 ≤ 9223372036854775807) (r0 : -9223372036854775808 ≤ b2) (r1 : b2 ≤ 9223372036854775807) (hby : by_.length ≤ maxLen) (hbc : by_.length ≤ c2) (hbb : ∀ i (h : i < by_.length), -9223372036854775808 ≤ by_[i] ∧ by_[i] ≤ 9223372036854775807)
    (s0 : -9223372036854775808 ≤ shift) (s1 : shift ≤ 9223372036854775807) (m0 : -9223372036854775808 ≤ agents) (m1 : agents ≤ 9223372036854775807) (t0 : -9223372036854775808 ≤ more) (t1 : more ≤ 9223372036854775807) (v0 : -9223372036854775808 ≤ out) (v1 : out ≤ 9223372036854775807) (w : World) (hR : Rdy w) (hI : RL KD w ad l) (hJ : RL KI w ad2 by_) :
    Calls Tryd.prog 8 #[.int .i64 n, .slice ad l.length c, .agg #[.int .i64 b0, .int .i64 b1, .int .i64 b2], .slice ad2 by_.length c2, .int .i64 shift, .int .i64 agents, .int .i64 more, .int .i64 out] w fun e w' => e = .returned (.bool true) ∧ Below w.heap.size w w' :=
  shifted_any sane_any agrees_okq n ad c l b0 b1 b2 ad2 c2 by_ shift agents more out h0 h1 hl hdi p0 p1 q0 q1 r0 r1 hby hbc hbb s0 s1 m0 m1 t0 t1 v0 v1 w hR hI hJ
end Go.Proofs.YtamefmojocegkaaDoor
