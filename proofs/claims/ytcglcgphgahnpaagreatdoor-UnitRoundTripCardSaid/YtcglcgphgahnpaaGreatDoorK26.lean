/-
  Arguments that are quantities: two texts and four integers. The package-level variables of layer 5's rows: what the rows list of them, read as the calls need it; worlds for the witnesses.
-/
import Derived.Test.YtcglcgphgahnpaaGreatDoorChecked
import Derived.Test.YtcglcgphgahnpaaGreatDoorCards
import Derived.Test.YtcglcgphgahnpaaGreatDoorTie
import Derived.Test.YtcglcgphgahnpaaGreatDoorProg
import Derived.Test.YtcglcgphgahnpaaGreatDoorK25
import Derived.ChangeSame
import Derived.WalkKit
import Derived.Lib.SmallJoins
import Derived.ProofKit
import Derived.OpenShut
import Derived.ShutString
import Derived.Deep.DeepHandedRow
import Derived.Lib.LaidTab
import Derived.Lay
import Derived.Stop.LaidErr
import Derived.WideKeyPair
import Derived.BigQuiet
import Derived.Stop.RegionWithIn
import Derived.RangeFuncNested
import Derived.RangeFuncBound
import Derived.RangeFuncCalls
import Derived.RangeFuncLeaves
import Derived.RangeFuncBox
import Derived.OwnWalkIn
import Derived.TacticsInMore
import Derived.LoopNIn
import Derived.LoopIn
import Derived.Shelf.AbstractIn
import Derived.Laws.CopyOwn
import Derived.Laws.Rows
import Derived.Below
import Derived.OwnWalk
import Derived.IntWalk
import Derived.RegionTactic
import Derived.Deep.RegionLaw
import Derived.Deep.RegionWith
import Derived.Deep.RegionHeld3
import Derived.Deep.QuietTactic
import Derived.Shelf.Abstract
import Derived.Laws.AppendOwn
import Derived.WalkLawsBesides
import Derived.Outline
import Derived.Lib.Hide
import Derived.Laws.MakeOwn
import Derived.Shelf.LaysM
import Derived.Shelf.LaysC
import Derived.Shelf.Strconv.Itoa3
import Derived.Shelf.Strconv.AtoiAll
import Derived.Shelf.Strconv.ErrVarAll
import Derived.Shelf.Strconv.AppendIntPublic10
import Derived.Lib.ItoaNum
import Derived.Lib.AtoiAll
import Derived.Lib.ConvBytes
import Derived.Lib.SlBytesRow
set_option maxRecDepth 100000
set_option maxHeartbeats 16000000
namespace Go.Proofs.YtcglcgphgahnpaaGreatDoor
open Go Go.Proofs Go.ChangeShapes Go.WideShapes Go.ChangeAt Go.RowKit
theorem str_cells : Tryz.prog.cellsOf 9 = 1 := by kernel_rfl
section
variable {H : Type} {enc : TypeId × Value → H} {W : World} {base : Nat} {sp : Nat → Bool} {held : Bool}
end
end Go.Proofs.YtcglcgphgahnpaaGreatDoor

namespace Go.Proofs.YtcglcgphgahnpaaGreatDoor
open Go Go.Proofs Go.ChangeShapes Go.WideShapes Go.ChangeAt Go.RowKit
theorem gWords : Tryz.prog.globalNamed "latecomer/unit.words" = some 0 := by kernel_rfl
theorem gWordsType : (Tryz.prog.globals[(0 : Nat)]?).map (·.type) = some 82 := by kernel_rfl
theorem words_cells : Tryz.prog.cellsOf 82 = 4 := by kernel_rfl
theorem cells_of_strs {H : Type} {enc : TypeId × Value → H} {P : Program} {w : World} {base : Nat} {sp : Nat → Bool} {held : Bool} {fuel : Nat} {t e : TypeId} {n : Nat} {cs : List Value} {zs : List ByteArray} {p : List MemPlace}
 (ht : P.underlying t = some (.array n e)) (he : P.underlying e = some .string) (hce : P.cellsOf e = 1) (hct : P.cellsOf t = n)
 (h : DataW.trod enc P w base sp held fuel t cs = some (.agg (zs.map fun z => .lit (.string z.data.toList)), p)) : cs = zs.map fun z => Value.string z := by
 cases fuel with
 | zero => simp [DataW.trod] at h
 | succ fuel =>
  simp only [DataW.trod, ht, hce, hct, Nat.mul_one] at h
  split at h
  · rename_i hl
    obtain ⟨xs, hm, hx⟩ := Option.map_eq_some_iff.1 h
    have hxs : xs.map (·.1) = zs.map fun z => (DataW.lit (.string z.data.toList) : DataW H) := by
     have := congrArg Prod.fst hx
     simpa using this
    have hxl : xs.length = n := by simpa using Lib.mapM_length hm
    have hzl : zs.length = n := by
     have := congrArg List.length hxs
     simp at this
     omega
    apply List.ext_getElem?
    intro i
    by_cases hi : i < n
    · obtain ⟨b, hb, hf⟩ := Lib.mapM_at hm i i (by simp [hi])
      obtain ⟨s, hc, rfl, _⟩ := DataW.trod_string he hf
      have h1 : cs[i]? = some (.string s) := by
       have := congrArg (·[0]?) hc
       simpa [List.getElem?_take, List.getElem?_drop] using this
      have h2 : (xs.map (·.1))[i]? = some (DataW.lit (.string s.data.toList) : DataW H) := by simp [hb]
      rw [hxs] at h2
      simp only [List.getElem?_map, Option.map_eq_some_iff, DataW.lit.injEq, Lit.string.injEq] at h2
      obtain ⟨z', hz', hz2⟩ := h2
      have e : z' = s := ByteArray.ext (Array.toList_inj.1 hz2)
      subst e
      simp [h1, hz']
    · rw [List.getElem?_eq_none (by omega), List.getElem?_eq_none (by simp; omega)]
  · cases h
def wordsT : List ByteArray := [⟨#[117, 115]⟩, ⟨#[98, 121, 116, 101]⟩, ⟨#[99, 101, 110, 116]⟩, ⟨#[111, 110, 101]⟩]
theorem words_of_head {W : World} {rest : List (String × DataW Unit)} (h : laidMet Tryz.prog (("latecomer/unit.words", Rows.laid_latecomer_unit_words) :: rest) W) : WordsR W := by
 obtain ⟨ps, ⟨g', t', cs, fuel, p, q, hg', ht', hvar, hd, _, _⟩, _⟩ := h
 obtain rfl := Option.some.inj (gWords.symm.trans hg')
 obtain rfl := Option.some.inj (gWordsType.symm.trans ht')
 have hcs := cells_of_strs (zs := wordsT) Tryz.underlying82 Tryz.underlying9 str_cells words_cells hd
 intro i hi
 have e : i = 0 ∨ i = 1 ∨ i = 2 ∨ i = 3 := by omega
 have hb : ∀ i, i < 4 → wordB i = wordsT.getD i ⟨#[]⟩ := by decide +kernel
 have := World.var?_cell gWords hvar i
 rw [this, hb i hi]
 have hl : cs.toList = wordsT.map fun z => Value.string z := by simpa using hcs
 have h2 : cs[i]? = (wordsT.map fun z => Value.string z)[i]? := by rw [← hl, Array.getElem?_toList]
 rw [h2]
 rcases e with rfl | rfl | rfl | rfl <;> rfl
def laidU : List (String × DataW Unit) := [("math/bits.deBruijn32tab", Rows.laid_math_bits_deBruijn32tab), ("math/bits.deBruijn64tab", Rows.laid_math_bits_deBruijn64tab), ("internal/strconv.uint64pow10", Rows.laid_internal_strconv_uint64pow10), ("latecomer/unit.words", Rows.laid_latecomer_unit_words)]
theorem readyU {W : World} (h : laidMetH Tryz.prog laidU W) : Set5 W := by
 have h0 : laidMet Tryz.prog laidU W := h
 exact ⟨Lib.tabIs_of_head (rest := [("latecomer/unit.words", Rows.laid_latecomer_unit_words)]) gPow gPowType Tryz.underlying175 Tryz.underlying115 cells1 cells20 (laidMet.tail (laidMet.tail h0)), words_of_head (laidMet.tail (laidMet.tail (laidMet.tail h0)))⟩
noncomputable def worldU (os : Os) : World := World.laidAll Tryz.prog os laidU
theorem metU (os : Os) (args : Array Value) : laidMet Tryz.prog laidU ((worldU os).forCall (fun _ _ => 0) ⟨#[], args, []⟩).memory := laidMet_laidAll args (by kernel_rfl) (by kernel_rfl)
end Go.Proofs.YtcglcgphgahnpaaGreatDoor
