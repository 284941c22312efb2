/-
  Layer 8: ClockMatchesReference over the landed program, in its row's order.
-/
import Derived.Test.YtamefmojocegkaaDoorQd
namespace Go.Proofs.YtamefmojocegkaaDoor
open Go Go.Proofs Go.RowKit Go.Lib

theorem matches_r (g1 g2 g3 : Option Addr) (d1 d2 d3 : Nat) (fr : Fl) (ea : Option Addr) (ec : Nat) (es : List Ev) (xa : Option Addr) (xc : Nat) (xs : List Int) (agents n : Int) (ad : Option Addr) (c : Nat) (l : List D4) (b0 b1 b2 : Int)
    (hfl : fr.dr.length ≤ maxLen ∧ fr.sv.length ≤ maxLen ∧ fr.tm.length ≤ maxLen) (hfc : fr.dr.length ≤ d1 ∧ fr.sv.length ≤ d2 ∧ fr.tm.length ≤ d3) (hel : es.length ≤ maxLen) (hec : es.length ≤ ec) (hew : evsW es) (hxl : xs.length ≤ maxLen) (hxc : xs.length ≤ xc)
    (_ : ∀ i (h : i < xs.length), -9223372036854775808 ≤ xs[i] ∧ xs[i] ≤ 9223372036854775807) (_ : -9223372036854775808 ≤ agents) (_ : agents ≤ 9223372036854775807) (h0 : -9223372036854775808 ≤ n) (h1 : n ≤ 9223372036854775807) (hl : l.length ≤ maxLen) (hdi : ∀ d ∈ l, d.fit)
    (p0 : -9223372036854775808 ≤ b0) (p1 : b0 ≤ 9223372036854775807) (q0 : -9223372036854775808 ≤ b1) (q1 : b1 ≤ 9223372036854775807) (r0 : -9223372036854775808 ≤ b2) (r1 : b2 ≤ 9223372036854775807) (w : World) (hR : Rdy w)
    (hF : RL KI w g1 fr.dr ∧ RL KI w g2 fr.sv ∧ RL KI w g3 fr.tm) (hE : RL KE w ea es) (hX : RL KI w xa xs) (hI : RL KD w ad l) :
    Calls Tryd.prog 3 #[.agg #[.slice g1 fr.dr.length d1, .int .i64 fr.lat, .int .i64 fr.lia, .slice g2 fr.sv.length d2, .slice g3 fr.tm.length d3], .slice ea es.length ec, .slice xa xs.length xc, .int .i64 agents, .int .i64 n, .slice ad l.length c, .agg #[.int .i64 b0, .int .i64 b1, .int .i64 b2]] w fun e w' => e = .returned (.bool true) ∧ Below w.heap.size w w' :=
  matches_u g1 g2 g3 d1 d2 d3 fr hfl hfc ea ec es hel hec hew xa xc xs hxl hxc agents n ad c l b0 b1 b2 h0 h1 hl hdi p0 p1 q0 q1 r0 r1 w hR hF hE hX hI
end Go.Proofs.YtamefmojocegkaaDoor
