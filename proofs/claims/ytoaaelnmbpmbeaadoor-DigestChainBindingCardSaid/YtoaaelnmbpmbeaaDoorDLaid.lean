/-
  The one package-level variable of layer 2: what the rows list of it, read as its sixty-four cells; a world for the witnesses.
-/
import Derived.Test.YtoaaelnmbpmbeaaDoorCards
import Derived.Test.YtoaaelnmbpmbeaaDoorTie
import Derived.Test.YtoaaelnmbpmbeaaDoorHelp
import Derived.ProofKit
import Derived.OpenShut
import Derived.ShutString
import Derived.Deep.DeepHandedRow
import Derived.Lib.LaidTab
import Derived.Carry
import Derived.Deep.MidRow
namespace Go.Proofs.YtoaaelnmbpmbeaaDoor
open Go.ChangeShapes Go.WideShapes Go.ChangeAt Go.RowKit

theorem own : ownKnob Tryd.prog.godebug = none := by kernel_rfl
theorem gTab : Tryd.prog.globalNamed "latecomer/digest.roundWords" = some 0 := by kernel_rfl
theorem gTabType : (Tryd.prog.globals[(0 : Nat)]?).map (·.type) = some 72 := by kernel_rfl
theorem cells64 : Tryd.prog.cellsOf 72 = 64 := by kernel_rfl
theorem cells1 : Tryd.prog.cellsOf 48 = 1 := by kernel_rfl
def laidList : List (String × DataW Unit) := [("latecomer/digest.roundWords", Rows.laid_latecomer_digest_roundWords)]

theorem table {W : World} (h : laidMetH Tryd.prog laidList W) : HasK W := by
  have hT : Lib.TabIs Tryd.prog W "latecomer/digest.roundWords" .u32 (shaK.map fun n => ((n : Nat) : Int)) :=
    Lib.tabIs_of_head (rest := []) gTab gTabType Tryd.underlying72 Tryd.underlying48 cells1 cells64 h
  intro i hi
  have := hT.cell gTab i hi
  rw [this]
  congr 2
  have hl : i < shaK.length := by simpa [shaK] using hi
  simp [List.getD_eq_getElem?_getD, hl]

theorem table_lt {W : World} (h : HasK W) : 0 < W.heap.size := by
  have := h 0 (by decide)
  unfold World.cell? at this
  split at this
  · rename_i hb
    exact (Array.getElem?_eq_some_iff.1 hb).1
  · cases this

theorem int_bounds {n : Int} (h : (Lit.int .i64 n).wf = true) : -9223372036854775808 ≤ n ∧ n ≤ 9223372036854775807 := by
  have := bounds_i64 h
  exact this

theorem laidOut : laidOutB Tryd.prog = true := by kernel_rfl
theorem block_of_cell {W : World} {a : Addr} {v : Value} (h : W.cell? a = some v) : a.block < W.heap.size := by
  unfold World.cell? at h
  split at h
  · rename_i hb
    exact (Array.getElem?_eq_some_iff.1 hb).1
  · cases h
theorem addr_none {w : World} {a : Addr} {v : Value} (h : w.cell? (a.add 0) = some v) : a = ⟨a.block, a.off, none⟩ := by
  obtain ⟨b, o, sp⟩ := a
  have := World.cell?_spot h
  rw [Addr.add_zero'] at this
  have hs : sp = none := this
  subst hs
  rfl

theorem open_strs_in {H : Type} {enc : TypeId × Value → H} {w : World} {b0 : Nat} {v : Value} {d : DataW H} {ps : List MemPlace}
    (hval : Value.okWide Tryd.prog w .any b0 26 v) (hd : DataW.Trod enc Tryd.prog w 0 (fun _ => true) true 26 v d ps) :
    ∃ a len cap, v = .slice a len cap ∧ len ≤ maxLen ∧ ∃ t, StrsIn w a len t := by
  obtain ⟨a0, len, cap, rfl⟩ := okWide_slice Tryd.underlying26 hval
  obtain ⟨fuel, hf⟩ := hd
  rcases open_strings Tryd.underlying26 Tryd.underlying9 (by kernel_rfl) hf with ⟨hcs, _⟩ | ⟨x, l, c, zs, hcs, _, hl, hm, hz, _, hcell, hwz⟩
  · simp [Value.cells] at hcs
    obtain ⟨rfl, rfl, rfl⟩ := hcs
    exact ⟨none, 0, 0, rfl, Nat.zero_le _, fun _ => ByteArray.empty, .inl rfl⟩
  · simp [Value.cells] at hcs
    obtain ⟨rfl, rfl, rfl⟩ := hcs
    have hz2 : zs.length = cap := by simpa using hz
    refine ⟨_, len, cap, rfl, Nat.le_trans hl hm, fun i => zs.getD i ByteArray.empty, ?_⟩
    by_cases h0 : len = 0
    · exact .inl h0
    · right
      have c0 := hcell 0 (by omega)
      have hx := addr_none c0
      refine ⟨x.block, x.off, by rw [← hx], ?_, fun i hi => ?_⟩
      · have := block_of_cell c0
        rw [Addr.add_zero'] at this; exact this
      · have ci := hcell i (by omega)
        rw [hx] at ci
        have hb := hwz (zs.getD i ByteArray.empty) (by
          rw [List.getD_eq_getElem?_getD, List.getElem?_eq_getElem (by omega)]
          exact List.getElem_mem _)
        rw [Addr.add_mid] at ci
        exact ⟨ci, hb⟩

/-- A world for the witnesses: the settled one, the table holding what its initialiser lays. -/
noncomputable def laidWorld (os : Os) : World :=
  { World.holding Tryd.prog os ⟨#[], #[], []⟩ with heap := (World.holding Tryd.prog os ⟨#[], #[], []⟩).heap.modify 0 fun
      | .cells _ t frozen => .cells (u32s shaK) t frozen
      | o => o }
end Go.Proofs.YtoaaelnmbpmbeaaDoor
