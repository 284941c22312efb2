/-
  The one package-level variable of layer 1: what the rows list of it, read as its sixteen cells; a world for the witnesses.
-/
import Derived.Test.YtkilmnhciigkcaaDoorCards
import Derived.Test.YtkilmnhciigkcaaDoorTie
import Derived.Test.YtkilmnhciigkcaaDoorSum
import Derived.Test.YtkilmnhciigkcaaDoorBase
import Derived.ProofKit
import Derived.OpenShut
import Derived.ShutString
import Derived.Deep.DeepHandedRow
import Derived.Lib.LaidTab
import Derived.Carry
namespace Go.Proofs.YtkilmnhciigkcaaDoor
open Go.ChangeShapes Go.WideShapes Go.ChangeAt Go.RowKit

theorem own : ownKnob Tryd.prog.godebug = none := by kernel_rfl
theorem gTab : Tryd.prog.globalNamed "latecomer/wire.remainders" = some 0 := by kernel_rfl
theorem gTabType : (Tryd.prog.globals[0]?).map (·.type) = some 55 := by kernel_rfl
theorem cells16 : Tryd.prog.cellsOf 55 = 16 := by kernel_rfl
theorem cells1 : Tryd.prog.cellsOf 43 = 1 := by kernel_rfl
def laidList : List (String × DataW Unit) := [("latecomer/wire.remainders", Rows.laid_latecomer_wire_remainders)]

theorem table {W : World} (h : laidMetH Tryd.prog laidList W) : HasTab W := by
  have hT : Lib.TabIs Tryd.prog W "latecomer/wire.remainders" .u32 [0, 274646895, 549293790, 820201905, 1098587580, 1361435347, 1640403810, 1905808397, 2197175160, 2460548119, 2722870694, 2987750089, 3280807620, 3553878443, 3811616794, 4084100981] :=
    Lib.tabIs_of_head (rest := []) gTab gTabType Tryd.underlying55 Tryd.underlying43 cells1 cells16 h
  intro i hi
  have := hT.cell gTab i hi
  rw [this]
  have h16 : i = 0 ∨ i = 1 ∨ i = 2 ∨ i = 3 ∨ i = 4 ∨ i = 5 ∨ i = 6 ∨ i = 7 ∨ i = 8 ∨ i = 9 ∨ i = 10 ∨ i = 11 ∨ i = 12 ∨ i = 13 ∨ i = 14 ∨ i = 15 := by omega
  rcases h16 with rfl | rfl | rfl | rfl | rfl | rfl | rfl | rfl | rfl | rfl | rfl | rfl | rfl | rfl | rfl | rfl <;> rfl

theorem table_lt {W : World} (h : HasTab W) : 0 < W.heap.size := block_of_cell (h 0 (by decide))

theorem int_bounds {n : Int} (h : (Lit.int .i64 n).wf = true) : -9223372036854775808 ≤ n ∧ n ≤ 9223372036854775807 := by
  have := bounds_i64 h
  exact this

theorem laidOut : laidOutB Tryd.prog = true := by kernel_rfl

/-- A pair of strings that came in by value. -/
theorem open_pair {H : Type} {enc : TypeId × Value → H} {w : World} {base b0 : Nat} {sp : Nat → Bool} {held : Bool} {v : Value} {d : DataW H} {ps : List MemPlace}
    (hval : Value.okWide Tryd.prog w .any b0 36 v) (hd : DataW.Trod enc Tryd.prog w base sp held 36 v d ps) :
    ∃ s0 s1 : ByteArray, v = .agg #[.string s0, .string s1] ∧ s0.size ≤ maxLen ∧ s1.size ≤ maxLen := by
  have hu := Tryd.underlying36
  unfold Value.okWide at hval
  rw [hu] at hval
  obtain ⟨cs, rfl, hsz, _⟩ := hval
  have h2 : Tryd.prog.cellsOf 36 = 2 := by kernel_rfl
  have h1 : Tryd.prog.cellsOf 9 = 1 := by kernel_rfl
  rw [h2] at hsz
  obtain ⟨fuel, hf⟩ := hd
  obtain ⟨xs, m, _, _, _, hxl, hel⟩ := DataW.trod_array hu hf
  obtain ⟨l⟩ := cs
  match l, hsz with
  | [a, b], _ =>
    have e0 := hel 0 (by decide)
    have e1 := hel 1 (by decide)
    rw [h1, List.getElem?_eq_getElem (by omega)] at e0
    rw [h1, List.getElem?_eq_getElem (by omega)] at e1
    simp only [Value.cells, Nat.zero_mul, Nat.one_mul, List.drop_zero, List.drop_succ_cons, List.take_succ_cons, List.take_zero] at e0 e1
    obtain ⟨s0, k0, _, l0⟩ := DataW.trod_string Tryd.underlying9 e0
    obtain ⟨s1, k1, _, l1⟩ := DataW.trod_string Tryd.underlying9 e1
    simp only [List.cons.injEq, and_true] at k0 k1
    subst k0 k1
    exact ⟨s0, s1, rfl, l0, l1⟩

/-- A world for the witnesses: the settled one, the table holding what its initialiser lays. -/
noncomputable def laidWorld (os : Os) : World :=
  { World.holding Tryd.prog os ⟨#[], #[], []⟩ with heap := (World.holding Tryd.prog os ⟨#[], #[], []⟩).heap.modify 0 fun
      | .cells _ t frozen => .cells #[.int .u32 0, .int .u32 274646895, .int .u32 549293790, .int .u32 820201905, .int .u32 1098587580, .int .u32 1361435347, .int .u32 1640403810, .int .u32 1905808397, .int .u32 2197175160, .int .u32 2460548119, .int .u32 2722870694, .int .u32 2987750089, .int .u32 3280807620, .int .u32 3553878443, .int .u32 3811616794, .int .u32 4084100981] t frozen
      | o => o }
end Go.Proofs.YtkilmnhciigkcaaDoor
