/-
  Layer 9: what came in: a slice of rows of six integers, a slice of integers. Layer 9: an array of six integers that came in.
-/
import Derived.Test.YtnpfhcnjkekhbaaGreatDoorProg
import Derived.Test.YtnpfhcnjkekhbaaGreatDoorK14
import Derived.ProofKit
import Derived.OpenShut
import Derived.ShutString
import Derived.Deep.DeepHandedRow
import Derived.Deep.Slices
import Derived.Deep.MidRow
import Derived.Carry
import Derived.Lib.SmallJoins
import Derived.Deep.RegionHeld3
import Derived.Lib.QuietBelow
import Derived.Deep.DeepCutAuto
import Derived.Deep.QuietTactic
import Derived.Laws.Rows
import Derived.Laws.OwnMore
import Derived.OwnWalk
import Derived.WalkKit
import Derived.WalkLawsBesides
import Derived.Outline
import Derived.Lib.Hide
import Derived.Below
import Derived.BigQuiet
import Derived.Lib.Varint
import Derived.StillTail
set_option maxRecDepth 100000
set_option maxHeartbeats 16000000
namespace Go.Proofs.YtnpfhcnjkekhbaaGreatDoor
open Go Go.Proofs Go.ChangeShapes Go.WideShapes Go.ChangeAt Go.RowKit
theorem cell1E : Tryz.prog.cellsOf 3 = 1 := by kernel_rfl
theorem block_of_cellE {W : World} {a : Addr} {v : Value} (h : W.cell? a = some v) : a.block < W.heap.size := by
 unfold World.cell? at h
 split at h
 · rename_i hb
   exact (Array.getElem?_eq_some_iff.1 hb).1
 · cases h
theorem open_rowE {T : Type} [Inhabited T] (K : RowK T) (P : T → Prop) {H : Type} {enc : TypeId × Value → H} {w : World} (hc : Tryz.prog.cellsOf K.et = K.n)
 (hone : ∀ t : T, ∃ u, (K.cs t)[0]? = some u) (hel : ∀ (fuel : Nat) (cs : List Value) (x : DataW H × List MemPlace), DataW.trod enc Tryz.prog w 0 (fun _ => true) true fuel K.et cs = some x → ∃ t, cs = K.cs t ∧ P t)
 {fuel : Nat} {v : Value} {x : DataW H × List MemPlace} (hf : DataW.trod enc Tryz.prog w 0 (fun _ => true) true fuel K.st [v] = some x) :
 ∃ (a : Option Addr) (cap : Nat) (l : List T), v = .slice a l.length cap ∧ l.length ≤ maxLen ∧ l.length ≤ cap ∧ RL K w a l ∧ ∀ t ∈ l, P t := by
 rcases Deep.open_slice K.und hf with ⟨hcs, _⟩ | ⟨x, len, cap, m, nf, D, Pl, hcs, _, hl, hm, hmm, _, hel2⟩
 · obtain rfl : v = .slice none 0 0 := by simpa using hcs
   exact ⟨none, 0, [], rfl, Nat.zero_le _, Nat.zero_le _, .inl rfl, fun i hi => nomatch hi⟩
 · obtain rfl : v = .slice (some x) len cap := by simpa using hcs
   rw [hc] at hel2
   have hlm : len ≤ m := by rw [hmm]; split <;> omega
   obtain ⟨V, hV⟩ := Deep.choose_lt (α := T) (n := len) (p := fun i d => w.cells? 0 (x.add (i * K.n)) K.n = some (K.cs d) ∧ P d) (fun i hi => by
    obtain ⟨cs', h1, h2⟩ := hel2 i (by omega)
    obtain ⟨d, rfl, h3⟩ := hel _ _ _ h2
    exact ⟨d, h1, h3⟩)
   have hll : ((List.range len).map V).length = len := by simp
   refine ⟨some x, cap, (List.range len).map V, by rw [hll], by rw [hll]; omega, by rw [hll]; exact hl, ?_, fun d hd => ?_⟩
   · by_cases h0 : len = 0
     · exact .inl (by subst h0; rfl)
     · right
       obtain ⟨_, _, c0⟩ := World.cells?_some (hV 0 (by omega)).1
       obtain ⟨u, hu⟩ := hone (V 0)
       have c00 := (c0 0 K.pos).trans hu
       have hs := World.cell?_spot c00
       obtain ⟨xb, xo, xs⟩ := x
       rw [Nat.zero_mul, Addr.add_zero', Addr.add_zero'] at hs c00
       have hs : xs = none := hs
       subst hs
       refine ⟨xb, xo, rfl, block_of_cellE c00, fun i hi j hj => ?_⟩
       rw [hll] at hi
       obtain ⟨_, _, ci⟩ := World.cells?_some (hV i hi).1
       have hcj := ci j hj
       rw [Addr.add_mid, Addr.add_mid, Nat.mul_comm i K.n] at hcj
       rw [List.getElem_map, List.getElem_range]
       exact hcj
   · obtain ⟨i, hi, rfl⟩ := List.mem_map.1 hd
     exact (hV i (List.mem_range.1 hi)).2
instance : Inhabited S6 := ⟨⟨0, 0, 0, 0, 0, 0⟩⟩
theorem six_under : Tryz.prog.underlying 61 = some (.array 6 3) := Tryz.underlying61
theorem six_cells : Tryz.prog.cellsOf 61 = 6 := by kernel_rfl
theorem six_ofE {H : Type} {enc : TypeId × Value → H} {w : World} (fuel : Nat) (cs : List Value) (x : DataW H × List MemPlace) (hf : DataW.trod enc Tryz.prog w 0 (fun _ => true) true fuel 61 cs = some x) : ∃ t : S6, cs = K6.cs t ∧ t.fit := by
 cases fuel with
 | zero => simp [DataW.trod] at hf
 | succ m =>
  rw [DataW.trod_step] at hf
  unfold DataW.trodStep at hf
  simp only [six_under] at hf
  split at hf
  rotate_left
  · cases hf
  rename_i hl
  rw [six_cells] at hl
  match cs, hl with
  | [y0, y1, y2, y3, y4, y5], _ =>
   rw [show List.range 6 = [0, 1, 2, 3, 4, 5] from rfl] at hf
   simp only [Option.map_eq_some_iff, List.mapM_cons, List.mapM_nil, bind, Option.bind_eq_some_iff, pure, Option.some.injEq, cell1E] at hf
   obtain ⟨xs, ⟨p0, h0, _, ⟨p1, h1, _, ⟨p2, h2, _, ⟨p3, h3, _, ⟨p4, h4, _, ⟨p5, h5, _, rfl, rfl⟩, rfl⟩, rfl⟩, rfl⟩, rfl⟩, rfl⟩, hq⟩ := hf
   obtain ⟨a0, e0, _, b0⟩ := DataW.trod_int Tryz.underlying3 h0
   obtain ⟨a1, e1, _, b1⟩ := DataW.trod_int Tryz.underlying3 h1
   obtain ⟨a2, e2, _, b2⟩ := DataW.trod_int Tryz.underlying3 h2
   obtain ⟨a3, e3, _, b3⟩ := DataW.trod_int Tryz.underlying3 h3
   obtain ⟨a4, e4, _, b4⟩ := DataW.trod_int Tryz.underlying3 h4
   obtain ⟨a5, e5, _, b5⟩ := DataW.trod_int Tryz.underlying3 h5
   simp at e0 e1 e2 e3 e4 e5
   subst e0 e1 e2 e3 e4 e5
   exact ⟨⟨a0, a1, a2, a3, a4, a5⟩, rfl, bounds_i64 b0, bounds_i64 b1, bounds_i64 b2, bounds_i64 b3, bounds_i64 b4, bounds_i64 b5⟩
theorem open_rows6 {H : Type} {enc : TypeId × Value → H} {w : World} {b0 : Nat} {v : Value} {d : DataW H} {ps : List MemPlace}
 (hval : Value.okWide Tryz.prog w .any b0 27 v) (hd : DataW.Trod enc Tryz.prog w 0 (fun _ => true) true 27 v d ps) :
 ∃ (a : Option Addr) (cap : Nat) (l : List S6), v = .slice a l.length cap ∧ l.length ≤ maxLen ∧ l.length ≤ cap ∧ RL K6 w a l ∧ ∀ t ∈ l, t.fit := by
 obtain ⟨a0, len, cap0, rfl⟩ := okWide_slice Tryz.underlying27 hval
 obtain ⟨fuel, hf⟩ := hd
 exact open_rowE K6 S6.fit six_cells (fun _ => ⟨_, rfl⟩) six_ofE (show DataW.trod enc Tryz.prog w 0 (fun _ => true) true fuel K6.st [.slice a0 len cap0] = some (d, ps) from hf)
end Go.Proofs.YtnpfhcnjkekhbaaGreatDoor

namespace Go.Proofs.YtnpfhcnjkekhbaaGreatDoor
open Go Go.Proofs Go.ChangeShapes Go.WideShapes Go.ChangeAt Go.RowKit
theorem open_six {H : Type} {enc : TypeId × Value → H} {W : World} {base : Nat} {sp : Nat → Bool} {held : Bool} {r : Reach} {b0 : Nat} {v : Value} {d : DataW H} {ps : List MemPlace} (hval : Value.okWide Tryz.prog W r b0 61 v) (hd : DataW.Trod enc Tryz.prog W base sp held 61 v d ps) :
 ∃ x : S6, v = .agg #[.int .i64 x.a, .int .i64 x.b, .int .i64 x.c, .int .i64 x.d, .int .i64 x.e, .int .i64 x.f] ∧ d = .agg [.lit (.int .i64 x.a), .lit (.int .i64 x.b), .lit (.int .i64 x.c), .lit (.int .i64 x.d), .lit (.int .i64 x.e), .lit (.int .i64 x.f)] ∧ ps = [] ∧ x.fit ∧ (Lit.int .i64 x.a).wf = true ∧ (Lit.int .i64 x.b).wf = true ∧ (Lit.int .i64 x.c).wf = true ∧ (Lit.int .i64 x.d).wf = true ∧ (Lit.int .i64 x.e).wf = true ∧ (Lit.int .i64 x.f).wf = true := by
 simp only [Value.okWide, six_under] at hval
 obtain ⟨cs, rfl, hsz, _⟩ := hval
 rw [six_cells] at hsz
 obtain ⟨l⟩ := cs
 match l, hsz with
 | [y0, y1, y2, y3, y4, y5], _ =>
  obtain ⟨fuel, hf⟩ := hd
  cases fuel with
  | zero => simp [DataW.trod] at hf
  | succ m =>
   rw [DataW.trod_step] at hf
   unfold DataW.trodStep at hf
   simp only [six_under, Value.cells] at hf
   rw [if_pos (by rw [six_cells]; rfl), show List.range 6 = [0, 1, 2, 3, 4, 5] from rfl] at hf
   simp only [Option.map_eq_some_iff, List.mapM_cons, List.mapM_nil, bind, Option.bind_eq_some_iff, pure, Option.some.injEq, cell1E] at hf
   obtain ⟨xs, ⟨p0, h0, _, ⟨p1, h1, _, ⟨p2, h2, _, ⟨p3, h3, _, ⟨p4, h4, _, ⟨p5, h5, _, rfl, rfl⟩, rfl⟩, rfl⟩, rfl⟩, rfl⟩, rfl⟩, hq⟩ := hf
   obtain ⟨a, ea, rfl, wa⟩ := DataW.trod_int Tryz.underlying3 h0
   obtain ⟨b, eb, rfl, wb⟩ := DataW.trod_int Tryz.underlying3 h1
   obtain ⟨c, ec, rfl, wc⟩ := DataW.trod_int Tryz.underlying3 h2
   obtain ⟨d, ed, rfl, wd⟩ := DataW.trod_int Tryz.underlying3 h3
   obtain ⟨e, ee, rfl, we⟩ := DataW.trod_int Tryz.underlying3 h4
   obtain ⟨f, ef, rfl, wf⟩ := DataW.trod_int Tryz.underlying3 h5
   simp at ea eb ec ed ee ef hq
   obtain ⟨rfl, rfl⟩ := hq
   subst ea eb ec ed ee ef
   exact ⟨⟨a, b, c, d, e, f⟩, rfl, rfl, rfl, ⟨bounds_i64 wa, bounds_i64 wb, bounds_i64 wc, bounds_i64 wd, bounds_i64 we, bounds_i64 wf⟩, wa, wb, wc, wd, we, wf⟩
theorem shut_six {H : Type} {enc : TypeId × Value → H} {W : World} {base : Nat} {sp : Nat → Bool} {held : Bool} {a b c d e f : Int} (wa : (Lit.int .i64 a).wf = true) (wb : (Lit.int .i64 b).wf = true) (wc : (Lit.int .i64 c).wf = true) (wd : (Lit.int .i64 d).wf = true) (we : (Lit.int .i64 e).wf = true) (wf : (Lit.int .i64 f).wf = true) :
 DataW.Trod enc Tryz.prog W base sp held 61 (.agg #[.int .i64 a, .int .i64 b, .int .i64 c, .int .i64 d, .int .i64 e, .int .i64 f]) (.agg [.lit (.int .i64 a), .lit (.int .i64 b), .lit (.int .i64 c), .lit (.int .i64 d), .lit (.int .i64 e), .lit (.int .i64 f)]) [] := by
 refine ⟨2, ?_⟩
 show DataW.trod enc Tryz.prog W base sp held (1 + 1) 61 [.int .i64 a, .int .i64 b, .int .i64 c, .int .i64 d, .int .i64 e, .int .i64 f] = _
 rw [DataW.trod_step]
 unfold DataW.trodStep
 simp only [six_under]
 rw [if_pos (by rw [six_cells]; rfl), show List.range 6 = [0, 1, 2, 3, 4, 5] from rfl, List.mapM_cons, List.mapM_cons, List.mapM_cons, List.mapM_cons, List.mapM_cons, List.mapM_cons, List.mapM_nil]
 simp [cell1E, DataW.trod, Tryz.underlying3, wa, wb, wc, wd, we, wf]
end Go.Proofs.YtnpfhcnjkekhbaaGreatDoor
