/-
  A slice of deeds that came in: what it holds, as a list.
-/
import Derived.Test.YtamefmojocegkaaDoorProg
import Derived.Test.YtamefmojocegkaaDoorK05
import Derived.ProofKit
import Derived.OpenShut
import Derived.ShutString
import Derived.Deep.DeepHandedRow
import Derived.Deep.Slices
import Derived.Deep.MidRow
import Derived.Carry
import Derived.Lib.QuietBelow
import Derived.StillTail
import Derived.WalkKit
import Derived.WalkLawsBesides
import Derived.Outline
import Derived.Lib.Hide
import Derived.Below
import Derived.BigQuiet
import Derived.Deep.QuietTactic
import Derived.Deep.RegionHeld3
import Derived.Deep.DeepCutAuto
import Derived.Laws.Rows
import Derived.Laws.OwnMore
import Derived.OwnWalk
set_option maxRecDepth 100000
set_option maxHeartbeats 16000000
namespace Go.Proofs.YtamefmojocegkaaDoor
open Go Go.Proofs Go.ChangeShapes Go.WideShapes Go.ChangeAt Go.RowKit
instance : Inhabited D4 := ⟨⟨0, 0, 0, 0⟩⟩
theorem deed_cells4 : Tryd.prog.cellsOf 106 = 4 := by kernel_rfl
theorem deed_cell1 : Tryd.prog.cellsOf 3 = 1 := by kernel_rfl
theorem deed_of8 {H : Type} {enc : TypeId × Value → H} {W : World} {base : Nat} {sp : Nat → Bool} {held : Bool} {fuel : Nat} {cs : List Value} {x : DataW H × List MemPlace}
 (h : DataW.trod enc Tryd.prog W base sp held fuel 106 cs = some x) : ∃ d : D4, cs = d.cells ∧ d.fit := by
 obtain ⟨xs, m, _, hx, hl, hn, hel⟩ := DataW.trod_array Tryd.underlying106 h
 rw [deed_cells4] at hl
 rw [deed_cell1] at hel
 match xs, hn with
 | [x0, x1, x2, x3], _ =>
  match cs, hl with
  | [u0, u1, u2, u3], _ =>
   obtain ⟨n0, e0, _, b0⟩ := DataW.trod_int Tryd.underlying3 ((hel 0 (by decide)).trans rfl)
   obtain ⟨n1, e1, _, b1⟩ := DataW.trod_int Tryd.underlying3 ((hel 1 (by decide)).trans rfl)
   obtain ⟨n2, e2, _, b2⟩ := DataW.trod_int Tryd.underlying3 ((hel 2 (by decide)).trans rfl)
   obtain ⟨n3, e3, _, b3⟩ := DataW.trod_int Tryd.underlying3 ((hel 3 (by decide)).trans rfl)
   simp at e0 e1 e2 e3
   subst e0 e1 e2 e3
   exact ⟨⟨n0, n1, n2, n3⟩, rfl, bounds_i64 b0, bounds_i64 b1, bounds_i64 b2, bounds_i64 b3⟩
theorem block_of_cell8 {W : World} {a : Addr} {v : Value} (h : W.cell? a = some v) : a.block < W.heap.size := by
 unfold World.cell? at h
 split at h
 · rename_i hb
   exact (Array.getElem?_eq_some_iff.1 hb).1
 · cases h
theorem open_deeds8 {H : Type} {enc : TypeId × Value → H} {w : World} {b0 : Nat} {v : Value} {d : DataW H} {ps : List MemPlace}
 (hval : Value.okWide Tryd.prog w .any b0 26 v) (hd : DataW.Trod enc Tryd.prog w 0 (fun _ => true) true 26 v d ps) :
 ∃ (a : Option Addr) (cap : Nat) (l : List D4), v = .slice a l.length cap ∧ l.length ≤ maxLen ∧ l.length ≤ cap ∧ RL KD w a l ∧ ∀ d ∈ l, d.fit := by
 obtain ⟨a0, len, cap, rfl⟩ := okWide_slice Tryd.underlying26 hval
 obtain ⟨fuel, hf⟩ := hd
 rcases Deep.open_slice Tryd.underlying26 hf with ⟨hcs, _⟩ | ⟨x, len', cap', m, nf, D, Pl, hcs, _, hl, hm, hmm, _, hel⟩
 · simp [Value.cells] at hcs
   obtain ⟨rfl, rfl, rfl⟩ := hcs
   exact ⟨none, 0, [], rfl, Nat.zero_le _, Nat.zero_le _, .inl rfl, fun i hi => nomatch hi⟩
 · simp [Value.cells] at hcs
   obtain ⟨rfl, rfl, rfl⟩ := hcs
   rw [deed_cells4] at hel
   have hlm : len ≤ m := by rw [hmm]; split <;> omega
   obtain ⟨V, hV⟩ := Deep.choose_lt (α := D4) (n := len) (p := fun i d => w.cells? 0 (x.add (i * 4)) 4 = some d.cells ∧ d.fit) (fun i hi => by
    obtain ⟨cs', h1, h2⟩ := hel i (by omega)
    obtain ⟨d, rfl, h3⟩ := deed_of8 h2
    exact ⟨d, h1, h3⟩)
   have hll : ((List.range len).map V).length = len := by simp
   refine ⟨some x, cap, (List.range len).map V, by rw [hll], by rw [hll]; omega, by rw [hll]; exact hl, ?_, fun d hd => ?_⟩
   · by_cases h0 : len = 0
     · exact .inl (by subst h0; rfl)
     · right
       obtain ⟨_, _, c0⟩ := World.cells?_some (hV 0 (by omega)).1
       have c00 := (c0 0 (by decide)).trans (show (V 0).cells[0]? = some (.int .i64 (V 0).a) from rfl)
       have hs := World.cell?_spot c00
       obtain ⟨xb, xo, xs⟩ := x
       rw [Nat.zero_mul, Addr.add_zero', Addr.add_zero'] at hs c00
       have hs : xs = none := hs
       subst hs
       refine ⟨xb, xo, rfl, block_of_cell8 c00, fun i hi j hj => ?_⟩
       rw [hll] at hi
       obtain ⟨_, _, ci⟩ := World.cells?_some (hV i hi).1
       have hcj := ci j hj
       rw [Addr.add_mid, Addr.add_mid, Nat.mul_comm i 4] at hcj
       rw [List.getElem_map, List.getElem_range]
       exact hcj
   · obtain ⟨i, hi, rfl⟩ := List.mem_map.1 hd
     exact (hV i (List.mem_range.1 hi)).2
end Go.Proofs.YtamefmojocegkaaDoor
