/-
  Layer 8: ClockTicks over the landed program.
-/
import Derived.Test.YtifdcfjllonmgaaDoorLd
namespace Go.Proofs.YtifdcfjllonmgaaDoor
open Go Go.Proofs Go.RowKit Go.Lib

theorem ticks_u (n ag s t : Int) (n0 : -9223372036854775808 ≤ n) (n1 : n ≤ 9223372036854775807) (a0 : -9223372036854775808 ≤ ag) (a1 : ag ≤ 9223372036854775807) (s0 : -9223372036854775808 ≤ s) (s1 : s ≤ 9223372036854775807) (t0 : -9223372036854775808 ≤ t) (t1 : t ≤ 9223372036854775807) (w : World) (hR : Rdy w) :
    Calls Tryd.prog 9 #[.int .i64 n, .int .i64 ag, .int .i64 s, .int .i64 t] w fun e w' => e = .returned (.bool true) ∧ Below w.heap.size w w' :=
  ticks_any sane_any reading_u n ag s t n0 n1 a0 a1 s0 s1 t0 t1 w hR
end Go.Proofs.YtifdcfjllonmgaaDoor
