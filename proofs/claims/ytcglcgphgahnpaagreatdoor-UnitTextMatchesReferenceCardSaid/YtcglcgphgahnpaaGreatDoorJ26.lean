/-
  The package-level variables of layer 4's rows: what the rows list of them, read as the calls need it; worlds for the witnesses; arguments that are arrays of integers.
-/
import Derived.Test.YtcglcgphgahnpaaGreatDoorCards
import Derived.Test.YtcglcgphgahnpaaGreatDoorTie
import Derived.Test.YtcglcgphgahnpaaGreatDoorJ20
import Derived.ProofKit
import Derived.OpenShut
import Derived.ShutString
import Derived.Deep.DeepHandedRow
import Derived.Lib.LaidTab
import Derived.Lay
import Derived.Stop.LaidErr
import Derived.WideKeyPair
set_option maxRecDepth 100000
set_option maxHeartbeats 16000000
namespace Go.Proofs.YtcglcgphgahnpaaGreatDoor
open Go Go.ChangeShapes Go.WideShapes Go.ChangeAt Go.RowKit
theorem own : ownKnob Tryz.prog.godebug = none := by kernel_rfl
theorem gPow : Tryz.prog.globalNamed "internal/strconv.uint64pow10" = some 2 := by kernel_rfl
theorem gPowType : (Tryz.prog.globals[(2 : Nat)]?).map (·.type) = some 175 := by kernel_rfl
theorem cells20 : Tryz.prog.cellsOf 175 = 20 := by kernel_rfl
theorem cells1 : Tryz.prog.cellsOf 115 = 1 := by kernel_rfl
theorem int_bounds {n : Int} (h : (Lit.int .i64 n).wf = true) : -9223372036854775808 ≤ n ∧ n ≤ 9223372036854775807 := by
 have := bounds_i64 h
 exact this
theorem four_under : Tryz.prog.underlying 28 = some (.array 4 3) := by kernel_rfl
theorem four_cells : Tryz.prog.cellsOf 28 = 4 := by kernel_rfl
theorem int_cells : Tryz.prog.cellsOf 3 = 1 := by kernel_rfl
section
variable {H : Type} {enc : TypeId × Value → H} {W : World} {base : Nat} {sp : Nat → Bool} {held : Bool}
theorem open_four {r : Reach} {b0 : Nat} {v : Value} {d : DataW H} {ps : List MemPlace} (hval : Value.okWide Tryz.prog W r b0 28 v) (hd : DataW.Trod enc Tryz.prog W base sp held 28 v d ps) :
 ∃ a b c e : Int, v = .agg #[.int .i64 a, .int .i64 b, .int .i64 c, .int .i64 e] ∧ d = .agg [.lit (.int .i64 a), .lit (.int .i64 b), .lit (.int .i64 c), .lit (.int .i64 e)] ∧ ps = [] ∧
  (Lit.int .i64 a).wf = true ∧ (Lit.int .i64 b).wf = true ∧ (Lit.int .i64 c).wf = true ∧ (Lit.int .i64 e).wf = true := by
 simp only [Value.okWide, four_under] at hval
 obtain ⟨cs, rfl, hsz, _⟩ := hval
 rw [four_cells] at hsz
 obtain ⟨l⟩ := cs
 match l, hsz with
 | [y0, y1, y2, y3], _ =>
  obtain ⟨fuel, hf⟩ := hd
  cases fuel with
  | zero => simp [DataW.trod] at hf
  | succ m =>
   rw [DataW.trod_step] at hf
   unfold DataW.trodStep at hf
   simp only [four_under, Value.cells] at hf
   rw [if_pos (by rw [four_cells]; rfl), show List.range 4 = [0, 1, 2, 3] from rfl] at hf
   simp only [Option.map_eq_some_iff, List.mapM_cons, List.mapM_nil, bind, Option.bind_eq_some_iff, pure, Option.some.injEq, int_cells] at hf
   obtain ⟨xs, ⟨p0, h0, _, ⟨p1, h1, _, ⟨p2, h2, _, ⟨p3, h3, _, rfl, rfl⟩, rfl⟩, rfl⟩, rfl⟩, hq⟩ := hf
   obtain ⟨a, ea, rfl, wa⟩ := DataW.trod_int Tryz.underlying3 h0
   obtain ⟨b, eb, rfl, wb⟩ := DataW.trod_int Tryz.underlying3 h1
   obtain ⟨c, ec, rfl, wc⟩ := DataW.trod_int Tryz.underlying3 h2
   obtain ⟨e, ee, rfl, we⟩ := DataW.trod_int Tryz.underlying3 h3
   simp at ea eb ec ee
   subst ea eb ec ee
   simp only [Prod.mk.injEq] at hq
   exact ⟨a, b, c, e, rfl, by rw [← hq.1]; rfl, by rw [← hq.2]; rfl, wa, wb, wc, we⟩
theorem shut_four {a b c e : Int} (wa : (Lit.int .i64 a).wf = true) (wb : (Lit.int .i64 b).wf = true) (wc : (Lit.int .i64 c).wf = true) (we : (Lit.int .i64 e).wf = true) :
 DataW.Trod enc Tryz.prog W base sp held 28 (.agg #[.int .i64 a, .int .i64 b, .int .i64 c, .int .i64 e]) (.agg [.lit (.int .i64 a), .lit (.int .i64 b), .lit (.int .i64 c), .lit (.int .i64 e)]) [] := by
 refine ⟨2, ?_⟩
 show DataW.trod enc Tryz.prog W base sp held (1 + 1) 28 [.int .i64 a, .int .i64 b, .int .i64 c, .int .i64 e] = _
 rw [DataW.trod_step]
 unfold DataW.trodStep
 simp only [four_under]
 rw [if_pos (by rw [four_cells]; rfl), show List.range 4 = [0, 1, 2, 3] from rfl, List.mapM_cons, List.mapM_cons, List.mapM_cons, List.mapM_cons, List.mapM_nil]
 simp [int_cells, DataW.trod, Tryz.underlying3, wa, wb, wc, we]
end
end Go.Proofs.YtcglcgphgahnpaaGreatDoor
