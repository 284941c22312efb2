/-
  Layer 8: the contract of the reference's Agrees.
-/
import Derived.Test.YtnpfhcnjkekhbaaDoorProg
import Derived.Test.YtnpfhcnjkekhbaaDoorK11
import Derived.Deep.RegionHeld3
import Derived.Lib.QuietBelow
import Derived.Deep.DeepCutAuto
import Derived.Deep.QuietTactic
import Derived.Laws.Rows
import Derived.Laws.OwnMore
import Derived.OwnWalk
import Derived.WalkKit
import Derived.WalkLawsBesides
import Derived.Outline
import Derived.Lib.Hide
import Derived.Below
import Derived.BigQuiet
set_option maxRecDepth 100000
set_option maxHeartbeats 16000000
namespace Go.Proofs.YtnpfhcnjkekhbaaDoor
open Go Go.Proofs Go.RowKit Go.Lib
def FlBox (W : World) (B : Nat) (x1 : Option Addr) (c1 : Nat) (x2 : Option Addr) (c2 : Nat) (x3 : Option Addr) (c3 : Nat) (f : Fl) : Prop :=
 W.cell? ⟨B, 0, none⟩ = some (.slice x1 f.dr.length c1) ∧ W.cell? ⟨B, 1, none⟩ = some (.int .i64 f.lat) ∧ W.cell? ⟨B, 2, none⟩ = some (.int .i64 f.lia) ∧ W.cell? ⟨B, 3, none⟩ = some (.slice x2 f.sv.length c2) ∧ W.cell? ⟨B, 4, none⟩ = some (.slice x3 f.tm.length c3)
theorem CellsAt.fl {W : World} {B : Nat} {x1 : Option Addr} {c1 : Nat} {x2 : Option Addr} {c2 : Nat} {x3 : Option Addr} {c3 : Nat} {f : Fl} (h : CellsAt W B [.slice x1 f.dr.length c1, .int .i64 f.lat, .int .i64 f.lia, .slice x2 f.sv.length c2, .slice x3 f.tm.length c3]) : FlBox W B x1 c1 x2 c2 x3 c3 f :=
 ⟨(h 0 (by simp)).1, (h 1 (by simp)).1, (h 2 (by simp)).1, (h 3 (by simp)).1, (h 4 (by simp)).1⟩
end Go.Proofs.YtnpfhcnjkekhbaaDoor
