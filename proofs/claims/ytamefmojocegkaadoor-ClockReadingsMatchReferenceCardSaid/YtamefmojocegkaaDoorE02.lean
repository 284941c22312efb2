/-
  An array of three integers and a slice of integers that came in.
-/
import Derived.Test.YtamefmojocegkaaDoorK11
import Derived.ProofKit
import Derived.OpenShut
import Derived.ShutString
import Derived.Deep.DeepHandedRow
import Derived.Deep.Slices
import Derived.Deep.MidRow
import Derived.Carry
import Derived.Deep.RegionHeld3
import Derived.Lib.QuietBelow
import Derived.Deep.DeepCutAuto
import Derived.WalkKit
import Derived.WalkLawsBesides
import Derived.Outline
import Derived.Lib.Hide
import Derived.Below
import Derived.BigQuiet
import Derived.Deep.QuietTactic
import Derived.Laws.Rows
import Derived.Laws.OwnMore
import Derived.OwnWalk
import Derived.StillTail
namespace Go.Proofs.YtamefmojocegkaaDoor
open Go Go.Proofs Go.ChangeShapes Go.WideShapes Go.ChangeAt Go.RowKit

theorem three_under : Tryd.prog.underlying 27 = some (.array 3 3) := Tryd.underlying27
theorem three_cells : Tryd.prog.cellsOf 27 = 3 := by kernel_rfl
set_option maxRecDepth 100000 in
theorem open_three {H : Type} {enc : TypeId × Value → H} {W : World} {base : Nat} {sp : Nat → Bool} {held : Bool} {r : Reach} {b0 : Nat} {v : Value} {d : DataW H} {ps : List MemPlace} (hval : Value.okWide Tryd.prog W r b0 27 v) (hd : DataW.Trod enc Tryd.prog W base sp held 27 v d ps) :
    ∃ a b c : Int, v = .agg #[.int .i64 a, .int .i64 b, .int .i64 c] ∧ d = .agg [.lit (.int .i64 a), .lit (.int .i64 b), .lit (.int .i64 c)] ∧ ps = [] ∧
      (Lit.int .i64 a).wf = true ∧ (Lit.int .i64 b).wf = true ∧ (Lit.int .i64 c).wf = true := by
  simp only [Value.okWide, three_under] at hval
  obtain ⟨cs, rfl, hsz, _⟩ := hval
  rw [three_cells] at hsz
  obtain ⟨l⟩ := cs
  match l, hsz with
  | [y0, y1, y2], _ =>
    obtain ⟨fuel, hf⟩ := hd
    cases fuel with
    | zero => simp [DataW.trod] at hf
    | succ m =>
      rw [DataW.trod_step] at hf
      unfold DataW.trodStep at hf
      simp only [three_under, Value.cells] at hf
      rw [if_pos (by rw [three_cells]; rfl), show List.range 3 = [0, 1, 2] from rfl] at hf
      simp only [Option.map_eq_some_iff, List.mapM_cons, List.mapM_nil, bind, Option.bind_eq_some_iff, pure, Option.some.injEq, deed_cell1] at hf
      obtain ⟨xs, ⟨p0, h0, _, ⟨p1, h1, _, ⟨p2, h2, _, rfl, rfl⟩, rfl⟩, rfl⟩, hq⟩ := hf
      obtain ⟨a, ea, rfl, wa⟩ := DataW.trod_int Tryd.underlying3 h0
      obtain ⟨b, eb, rfl, wb⟩ := DataW.trod_int Tryd.underlying3 h1
      obtain ⟨c, ec, rfl, wc⟩ := DataW.trod_int Tryd.underlying3 h2
      simp at ea eb ec hq
      obtain ⟨rfl, rfl⟩ := hq
      subst ea eb ec
      exact ⟨a, b, c, rfl, rfl, rfl, wa, wb, wc⟩
theorem shut_three {H : Type} {enc : TypeId × Value → H} {W : World} {base : Nat} {sp : Nat → Bool} {held : Bool} {a b c : Int} (wa : (Lit.int .i64 a).wf = true) (wb : (Lit.int .i64 b).wf = true) (wc : (Lit.int .i64 c).wf = true) :
    DataW.Trod enc Tryd.prog W base sp held 27 (.agg #[.int .i64 a, .int .i64 b, .int .i64 c]) (.agg [.lit (.int .i64 a), .lit (.int .i64 b), .lit (.int .i64 c)]) [] := by
  refine ⟨2, ?_⟩
  show DataW.trod enc Tryd.prog W base sp held (1 + 1) 27 [.int .i64 a, .int .i64 b, .int .i64 c] = _
  rw [DataW.trod_step]
  unfold DataW.trodStep
  simp only [three_under]
  rw [if_pos (by rw [three_cells]; rfl), show List.range 3 = [0, 1, 2] from rfl, List.mapM_cons, List.mapM_cons, List.mapM_cons, List.mapM_nil]
  simp [deed_cell1, DataW.trod, Tryd.underlying3, wa, wb, wc]
set_option maxRecDepth 100000 in
theorem open_ints8 {H : Type} {enc : TypeId × Value → H} {w : World} {b0 : Nat} {v : Value} {d : DataW H} {ps : List MemPlace}
    (hval : Value.okWide Tryd.prog w .any b0 22 v) (hd : DataW.Trod enc Tryd.prog w 0 (fun _ => true) true 22 v d ps) :
    ∃ (a : Option Addr) (cap : Nat) (l : List Int), v = .slice a l.length cap ∧ l.length ≤ maxLen ∧ l.length ≤ cap ∧ RL KI w a l ∧ ∀ i (hi : i < l.length), -9223372036854775808 ≤ l[i] ∧ l[i] ≤ 9223372036854775807 := by
  obtain ⟨a0, len, cap, rfl⟩ := okWide_slice Tryd.underlying22 hval
  obtain ⟨fuel, hf⟩ := hd
  rcases Deep.open_slice Tryd.underlying22 hf with ⟨hcs, _⟩ | ⟨x, len', cap', m, nf, D, Pl, hcs, _, hl, hm, hmm, _, hel⟩
  · simp [Value.cells] at hcs
    obtain ⟨rfl, rfl, rfl⟩ := hcs
    exact ⟨none, 0, [], rfl, Nat.zero_le _, Nat.zero_le _, .inl rfl, fun i hi => absurd hi (Nat.not_lt_zero _)⟩
  · simp [Value.cells] at hcs
    obtain ⟨rfl, rfl, rfl⟩ := hcs
    rw [deed_cell1] at hel
    have hlm : len ≤ m := by rw [hmm]; split <;> omega
    obtain ⟨V, hV⟩ := Deep.choose_lt (α := Int) (n := len) (p := fun i d => w.cells? 0 (x.add (i * 1)) 1 = some [.int .i64 d] ∧ -9223372036854775808 ≤ d ∧ d ≤ 9223372036854775807) (fun i hi => by
      obtain ⟨cs', h1, h2⟩ := hel i (by omega)
      obtain ⟨n0, e0, _, b0⟩ := DataW.trod_int Tryd.underlying3 h2
      subst e0
      exact ⟨n0, h1, bounds_i64 b0⟩)
    have hll : ((List.range len).map V).length = len := by simp
    refine ⟨some x, cap, (List.range len).map V, by rw [hll], by rw [hll]; omega, by rw [hll]; exact hl, ?_, fun i hi => ?_⟩
    · by_cases h0 : len = 0
      · exact .inl (by subst h0; rfl)
      · right
        obtain ⟨_, _, c0⟩ := World.cells?_some (hV 0 (by omega)).1
        have c00 := (c0 0 (by decide)).trans (show [Value.int .i64 (V 0)][0]? = some (.int .i64 (V 0)) from rfl)
        have hs := World.cell?_spot c00
        obtain ⟨xb, xo, xs⟩ := x
        rw [Nat.zero_mul, Addr.add_zero', Addr.add_zero'] at hs c00
        have hs : xs = none := hs
        subst hs
        refine ⟨xb, xo, rfl, block_of_cell8 c00, fun i hi j hj => ?_⟩
        rw [hll] at hi
        obtain ⟨_, _, ci⟩ := World.cells?_some (hV i hi).1
        have hcj := ci j hj
        rw [Addr.add_mid, Addr.add_mid, Nat.mul_comm i 1] at hcj
        rw [List.getElem_map, List.getElem_range]
        exact hcj
    · rw [hll] at hi
      rw [List.getElem_map, List.getElem_range]
      exact (hV i hi).2
end Go.Proofs.YtamefmojocegkaaDoor
