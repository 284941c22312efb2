/-
  Layer 9: what came in: a slice of rows of six integers, a slice of integers. Layer 9: slices of events and of integers that came in, with what room they have.
-/
import Derived.Test.YtnpfhcnjkekhbaaGreatDoorProg
import Derived.Test.YtnpfhcnjkekhbaaGreatDoorK14
import Derived.ProofKit
import Derived.OpenShut
import Derived.ShutString
import Derived.Deep.DeepHandedRow
import Derived.Deep.Slices
import Derived.Deep.MidRow
import Derived.Carry
import Derived.Lib.SmallJoins
import Derived.Deep.RegionHeld3
import Derived.Lib.QuietBelow
import Derived.Deep.DeepCutAuto
import Derived.Deep.QuietTactic
import Derived.Laws.Rows
import Derived.Laws.OwnMore
import Derived.OwnWalk
import Derived.WalkKit
import Derived.WalkLawsBesides
import Derived.Outline
import Derived.Lib.Hide
import Derived.Below
import Derived.BigQuiet
import Derived.Lib.Varint
import Derived.StillTail
import Derived.Maps.Own
import Derived.Maps.OwnOps
set_option maxRecDepth 100000
set_option maxHeartbeats 16000000
namespace Go.Proofs.YtnpfhcnjkekhbaaGreatDoor
open Go Go.Proofs Go.ChangeShapes Go.WideShapes Go.ChangeAt Go.RowKit
theorem cell1E : Tryz.prog.cellsOf 3 = 1 := by kernel_rfl
theorem block_of_cellE {W : World} {a : Addr} {v : Value} (h : W.cell? a = some v) : a.block < W.heap.size := by
 unfold World.cell? at h
 split at h
 · rename_i hb
   exact (Array.getElem?_eq_some_iff.1 hb).1
 · cases h
theorem open_rowE {T : Type} [Inhabited T] (K : RowK T) (P : T → Prop) {H : Type} {enc : TypeId × Value → H} {w : World} (hc : Tryz.prog.cellsOf K.et = K.n)
 (hone : ∀ t : T, ∃ u, (K.cs t)[0]? = some u) (hel : ∀ (fuel : Nat) (cs : List Value) (x : DataW H × List MemPlace), DataW.trod enc Tryz.prog w 0 (fun _ => true) true fuel K.et cs = some x → ∃ t, cs = K.cs t ∧ P t)
 {fuel : Nat} {v : Value} {x : DataW H × List MemPlace} (hf : DataW.trod enc Tryz.prog w 0 (fun _ => true) true fuel K.st [v] = some x) :
 ∃ (a : Option Addr) (cap : Nat) (l : List T), v = .slice a l.length cap ∧ l.length ≤ maxLen ∧ l.length ≤ cap ∧ RL K w a l ∧ ∀ t ∈ l, P t := by
 rcases Deep.open_slice K.und hf with ⟨hcs, _⟩ | ⟨x, len, cap, m, nf, D, Pl, hcs, _, hl, hm, hmm, _, hel2⟩
 · obtain rfl : v = .slice none 0 0 := by simpa using hcs
   exact ⟨none, 0, [], rfl, Nat.zero_le _, Nat.zero_le _, .inl rfl, fun i hi => nomatch hi⟩
 · obtain rfl : v = .slice (some x) len cap := by simpa using hcs
   rw [hc] at hel2
   have hlm : len ≤ m := by rw [hmm]; split <;> omega
   obtain ⟨V, hV⟩ := Deep.choose_lt (α := T) (n := len) (p := fun i d => w.cells? 0 (x.add (i * K.n)) K.n = some (K.cs d) ∧ P d) (fun i hi => by
    obtain ⟨cs', h1, h2⟩ := hel2 i (by omega)
    obtain ⟨d, rfl, h3⟩ := hel _ _ _ h2
    exact ⟨d, h1, h3⟩)
   have hll : ((List.range len).map V).length = len := by simp
   refine ⟨some x, cap, (List.range len).map V, by rw [hll], by rw [hll]; omega, by rw [hll]; exact hl, ?_, fun d hd => ?_⟩
   · by_cases h0 : len = 0
     · exact .inl (by subst h0; rfl)
     · right
       obtain ⟨_, _, c0⟩ := World.cells?_some (hV 0 (by omega)).1
       obtain ⟨u, hu⟩ := hone (V 0)
       have c00 := (c0 0 K.pos).trans hu
       have hs := World.cell?_spot c00
       obtain ⟨xb, xo, xs⟩ := x
       rw [Nat.zero_mul, Addr.add_zero', Addr.add_zero'] at hs c00
       have hs : xs = none := hs
       subst hs
       refine ⟨xb, xo, rfl, block_of_cellE c00, fun i hi j hj => ?_⟩
       rw [hll] at hi
       obtain ⟨_, _, ci⟩ := World.cells?_some (hV i hi).1
       have hcj := ci j hj
       rw [Addr.add_mid, Addr.add_mid, Nat.mul_comm i K.n] at hcj
       rw [List.getElem_map, List.getElem_range]
       exact hcj
   · obtain ⟨i, hi, rfl⟩ := List.mem_map.1 hd
     exact (hV i (List.mem_range.1 hi)).2
def InI (x : Int) : Prop := -9223372036854775808 ≤ x ∧ x ≤ 9223372036854775807
theorem int_ofE {H : Type} {enc : TypeId × Value → H} {w : World} (fuel : Nat) (cs : List Value) (x : DataW H × List MemPlace) (h : DataW.trod enc Tryz.prog w 0 (fun _ => true) true fuel 3 cs = some x) : ∃ t : Int, cs = KI.cs t ∧ InI t := by
 obtain ⟨n0, e0, _, b0⟩ := DataW.trod_int Tryz.underlying3 h
 subst e0
 exact ⟨n0, rfl, bounds_i64 b0⟩
theorem open_intsE {H : Type} {enc : TypeId × Value → H} {w : World} {fuel : Nat} {v : Value} {x : DataW H × List MemPlace} (hf : DataW.trod enc Tryz.prog w 0 (fun _ => true) true fuel 28 [v] = some x) :
 ∃ (a : Option Addr) (cap : Nat) (l : List Int), v = .slice a l.length cap ∧ l.length ≤ maxLen ∧ l.length ≤ cap ∧ RL KI w a l ∧ ∀ t ∈ l, InI t :=
 open_rowE KI InI cell1E (fun _ => ⟨_, rfl⟩) int_ofE hf
instance : Inhabited S6 := ⟨⟨0, 0, 0, 0, 0, 0⟩⟩
theorem six_under : Tryz.prog.underlying 61 = some (.array 6 3) := Tryz.underlying61
theorem six_cells : Tryz.prog.cellsOf 61 = 6 := by kernel_rfl
theorem six_ofE {H : Type} {enc : TypeId × Value → H} {w : World} (fuel : Nat) (cs : List Value) (x : DataW H × List MemPlace) (hf : DataW.trod enc Tryz.prog w 0 (fun _ => true) true fuel 61 cs = some x) : ∃ t : S6, cs = K6.cs t ∧ t.fit := by
 cases fuel with
 | zero => simp [DataW.trod] at hf
 | succ m =>
  rw [DataW.trod_step] at hf
  unfold DataW.trodStep at hf
  simp only [six_under] at hf
  split at hf
  rotate_left
  · cases hf
  rename_i hl
  rw [six_cells] at hl
  match cs, hl with
  | [y0, y1, y2, y3, y4, y5], _ =>
   rw [show List.range 6 = [0, 1, 2, 3, 4, 5] from rfl] at hf
   simp only [Option.map_eq_some_iff, List.mapM_cons, List.mapM_nil, bind, Option.bind_eq_some_iff, pure, Option.some.injEq, cell1E] at hf
   obtain ⟨xs, ⟨p0, h0, _, ⟨p1, h1, _, ⟨p2, h2, _, ⟨p3, h3, _, ⟨p4, h4, _, ⟨p5, h5, _, rfl, rfl⟩, rfl⟩, rfl⟩, rfl⟩, rfl⟩, rfl⟩, hq⟩ := hf
   obtain ⟨a0, e0, _, b0⟩ := DataW.trod_int Tryz.underlying3 h0
   obtain ⟨a1, e1, _, b1⟩ := DataW.trod_int Tryz.underlying3 h1
   obtain ⟨a2, e2, _, b2⟩ := DataW.trod_int Tryz.underlying3 h2
   obtain ⟨a3, e3, _, b3⟩ := DataW.trod_int Tryz.underlying3 h3
   obtain ⟨a4, e4, _, b4⟩ := DataW.trod_int Tryz.underlying3 h4
   obtain ⟨a5, e5, _, b5⟩ := DataW.trod_int Tryz.underlying3 h5
   simp at e0 e1 e2 e3 e4 e5
   subst e0 e1 e2 e3 e4 e5
   exact ⟨⟨a0, a1, a2, a3, a4, a5⟩, rfl, bounds_i64 b0, bounds_i64 b1, bounds_i64 b2, bounds_i64 b3, bounds_i64 b4, bounds_i64 b5⟩
theorem open_rows6 {H : Type} {enc : TypeId × Value → H} {w : World} {b0 : Nat} {v : Value} {d : DataW H} {ps : List MemPlace}
 (hval : Value.okWide Tryz.prog w .any b0 27 v) (hd : DataW.Trod enc Tryz.prog w 0 (fun _ => true) true 27 v d ps) :
 ∃ (a : Option Addr) (cap : Nat) (l : List S6), v = .slice a l.length cap ∧ l.length ≤ maxLen ∧ l.length ≤ cap ∧ RL K6 w a l ∧ ∀ t ∈ l, t.fit := by
 obtain ⟨a0, len, cap0, rfl⟩ := okWide_slice Tryz.underlying27 hval
 obtain ⟨fuel, hf⟩ := hd
 exact open_rowE K6 S6.fit six_cells (fun _ => ⟨_, rfl⟩) six_ofE (show DataW.trod enc Tryz.prog w 0 (fun _ => true) true fuel K6.st [.slice a0 len cap0] = some (d, ps) from hf)
theorem open_ints9 {H : Type} {enc : TypeId × Value → H} {w : World} {b0 : Nat} {v : Value} {d : DataW H} {ps : List MemPlace}
 (hval : Value.okWide Tryz.prog w .any b0 28 v) (hd : DataW.Trod enc Tryz.prog w 0 (fun _ => true) true 28 v d ps) :
 ∃ (a : Option Addr) (cap : Nat) (l : List Int), v = .slice a l.length cap ∧ l.length ≤ maxLen ∧ l.length ≤ cap ∧ RL KI w a l ∧ ∀ i (hi : i < l.length), -9223372036854775808 ≤ l[i] ∧ l[i] ≤ 9223372036854775807 := by
 obtain ⟨a0, len, cap0, rfl⟩ := okWide_slice Tryz.underlying28 hval
 obtain ⟨fuel, hf⟩ := hd
 obtain ⟨a, cap, l, h1, h2, h3, h4, h5⟩ := open_intsE (show DataW.trod enc Tryz.prog w 0 (fun _ => true) true fuel 28 [.slice a0 len cap0] = some (d, ps) from hf)
 exact ⟨a, cap, l, h1, h2, h3, h4, fun i hi => h5 _ (List.getElem_mem hi)⟩
end Go.Proofs.YtnpfhcnjkekhbaaGreatDoor

namespace Go.Proofs.YtnpfhcnjkekhbaaGreatDoor
open Go Go.Proofs Go.ChangeShapes Go.WideShapes Go.ChangeAt Go.RowKit
theorem open_rowN {T : Type} [Inhabited T] (K : RowK T) (P : T → Prop) {H : Type} {enc : TypeId × Value → H} {w : World} (hc : Tryz.prog.cellsOf K.et = K.n)
 (hone : ∀ t : T, ∃ u, (K.cs t)[0]? = some u) (hel : ∀ (fuel : Nat) (cs : List Value) (x : DataW H × List MemPlace), DataW.trod enc Tryz.prog w 0 (fun _ => true) true fuel K.et cs = some x → ∃ t, cs = K.cs t ∧ P t)
 {fuel : Nat} {v : Value} {x : DataW H × List MemPlace} (hf : DataW.trod enc Tryz.prog w 0 (fun _ => true) true fuel K.st [v] = some x) :
 ∃ (a : Option Addr) (cap : Nat) (l : List T), v = .slice a l.length cap ∧ l.length ≤ maxLen ∧ l.length ≤ cap ∧ RL K w a l ∧ (∀ t ∈ l, P t) ∧ (a = none → cap = 0) := by
 rcases Deep.open_slice K.und hf with ⟨hcs, _⟩ | ⟨x, len, cap, m, nf, D, Pl, hcs, _, hl, hm, hmm, _, hel2⟩
 · obtain rfl : v = .slice none 0 0 := by simpa using hcs
   exact ⟨none, 0, [], rfl, Nat.zero_le _, Nat.zero_le _, .inl rfl, (fun t ht => by cases ht), fun _ => rfl⟩
 · obtain rfl : v = .slice (some x) len cap := by simpa using hcs
   rw [hc] at hel2
   have hlm : len ≤ m := by rw [hmm]; split <;> omega
   obtain ⟨V, hV⟩ := Deep.choose_lt (α := T) (n := len) (p := fun i d => w.cells? 0 (x.add (i * K.n)) K.n = some (K.cs d) ∧ P d) (fun i hi => by
    obtain ⟨cs', h1, h2⟩ := hel2 i (by omega)
    obtain ⟨d, rfl, h3⟩ := hel _ _ _ h2
    exact ⟨d, h1, h3⟩)
   have hll : ((List.range len).map V).length = len := by simp
   refine ⟨some x, cap, (List.range len).map V, by rw [hll], by rw [hll]; omega, by rw [hll]; exact hl, ?_, fun d hd => ?_, fun h => by cases h⟩
   · by_cases h0 : len = 0
     · exact .inl (by subst h0; rfl)
     · right
       obtain ⟨_, _, c0⟩ := World.cells?_some (hV 0 (by omega)).1
       obtain ⟨u, hu⟩ := hone (V 0)
       have c00 := (c0 0 K.pos).trans hu
       have hs := World.cell?_spot c00
       obtain ⟨xb, xo, xs⟩ := x
       rw [Nat.zero_mul, Addr.add_zero', Addr.add_zero'] at hs c00
       have hs : xs = none := hs
       subst hs
       refine ⟨xb, xo, rfl, block_of_cellE c00, fun i hi j hj => ?_⟩
       rw [hll] at hi
       obtain ⟨_, _, ci⟩ := World.cells?_some (hV i hi).1
       have hcj := ci j hj
       rw [Addr.add_mid, Addr.add_mid, Nat.mul_comm i K.n] at hcj
       rw [List.getElem_map, List.getElem_range]
       exact hcj
   · obtain ⟨i, hi, rfl⟩ := List.mem_map.1 hd
     exact (hV i (List.mem_range.1 hi)).2
instance : Inhabited Ev := ⟨⟨0, 0, 0, 0, 0, 0, 0, 0, 0, 0, 0, 0⟩⟩
theorem ev_cells12 : Tryz.prog.cellsOf 23 = 12 := by kernel_rfl
noncomputable def evFields : Array Field := match Tryz.prog.underlying 23 with
 | some (.struct fs) => fs
 | _ => #[]
theorem ev_under : Tryz.prog.underlying 23 = some (.struct evFields) := by kernel_rfl
theorem ev_fields : (evFields.toList.map fun f => (f.type, f.offset)) = (List.range 12).map fun i => (3, i) := by kernel_rfl
theorem ev_size : evFields.size = 12 := by kernel_rfl
theorem ev_field {i : Nat} (hi : i < 12) : ∃ f, evFields[i]? = some f ∧ f.type = 3 ∧ f.offset = i := by
 have h := congrArg (fun l => l[i]?) ev_fields
 simp only [List.getElem?_map, List.getElem?_range hi, Option.map_some] at h
 rw [Option.map_eq_some_iff] at h
 obtain ⟨f, h1, h2⟩ := h
 injection h2 with h2 h3
 exact ⟨f, by rw [← Array.getElem?_toList]; exact h1, h2, h3⟩
theorem ev_ofE {H : Type} {enc : TypeId × Value → H} {w : World} (fuel : Nat) (cs : List Value) (x : DataW H × List MemPlace) (h : DataW.trod enc Tryz.prog w 0 (fun _ => true) true fuel 23 cs = some x) : ∃ t : Ev, cs = KE.cs t ∧ t.wf ∧ (InI t.ag ∧ InI t.tm) := by
 obtain ⟨xs, m, _, hx, hl, hn, hel⟩ := DataW.trod_struct ev_under h
 rw [ev_cells12] at hl
 have key : ∀ i, i < 12 → ∃ n : Int, cs[i]? = some (.int .i64 n) ∧ (Lit.int .i64 n).wf = true := fun i hi => by
  obtain ⟨f, hf, ht, ho⟩ := ev_field hi
  have h1 := hel i f hf
  have hlen : i < xs.length := by rw [hn, ev_size]; exact hi
  rw [ht, ho, cell1E, List.getElem?_eq_getElem hlen] at h1
  obtain ⟨n0, e0, _, b0⟩ := DataW.trod_int Tryz.underlying3 h1
  refine ⟨n0, ?_, b0⟩
  have := congrArg (fun l => l[0]?) e0
  simpa [List.getElem?_take, List.getElem?_drop] using this
 match cs, hl, key with
 | [u0, u1, u2, u3, u4, u5, u6, u7, u8, u9, u10, u11], _, key =>
  obtain ⟨n0, e0, b0⟩ := key 0 (by decide); obtain ⟨n1, e1, b1⟩ := key 1 (by decide); obtain ⟨n2, e2, b2⟩ := key 2 (by decide); obtain ⟨n3, e3, b3⟩ := key 3 (by decide)
  obtain ⟨n4, e4, b4⟩ := key 4 (by decide); obtain ⟨n5, e5, b5⟩ := key 5 (by decide); obtain ⟨n6, e6, b6⟩ := key 6 (by decide); obtain ⟨n7, e7, b7⟩ := key 7 (by decide)
  obtain ⟨n8, e8, b8⟩ := key 8 (by decide); obtain ⟨n9, e9, b9⟩ := key 9 (by decide); obtain ⟨n10, e10, b10⟩ := key 10 (by decide); obtain ⟨n11, e11, b11⟩ := key 11 (by decide)
  obtain rfl := Option.some.inj (show some u0 = some _ from e0); obtain rfl := Option.some.inj (show some u1 = some _ from e1); obtain rfl := Option.some.inj (show some u2 = some _ from e2); obtain rfl := Option.some.inj (show some u3 = some _ from e3)
  obtain rfl := Option.some.inj (show some u4 = some _ from e4); obtain rfl := Option.some.inj (show some u5 = some _ from e5); obtain rfl := Option.some.inj (show some u6 = some _ from e6); obtain rfl := Option.some.inj (show some u7 = some _ from e7)
  obtain rfl := Option.some.inj (show some u8 = some _ from e8); obtain rfl := Option.some.inj (show some u9 = some _ from e9); obtain rfl := Option.some.inj (show some u10 = some _ from e10); obtain rfl := Option.some.inj (show some u11 = some _ from e11)
  exact ⟨⟨n0, n1, n2, n3, n4, n5, n6, n7, n8, n9, n10, n11⟩, rfl, b3, bounds_i64 b0, bounds_i64 b2⟩
theorem open_eventsN {H : Type} {enc : TypeId × Value → H} {w : World} {b0 : Nat} {v : Value} {d : DataW H} {ps : List MemPlace}
 (hval : Value.okWide Tryz.prog w .any b0 24 v) (hd : DataW.Trod enc Tryz.prog w 0 (fun _ => true) true 24 v d ps) :
 ∃ (a : Option Addr) (cap : Nat) (l : List Ev), v = .slice a l.length cap ∧ l.length ≤ maxLen ∧ l.length ≤ cap ∧ RL KE w a l ∧ evsW l ∧ (a = none → cap = 0) := by
 obtain ⟨a0, len, cap0, rfl⟩ := okWide_slice Tryz.underlying24 hval
 obtain ⟨fuel, hf⟩ := hd
 obtain ⟨a, cap, l, h1, h2, h3, h4, h5, h6⟩ := open_rowN KE (fun t => t.wf ∧ (InI t.ag ∧ InI t.tm)) ev_cells12 (fun _ => ⟨_, rfl⟩) ev_ofE (show DataW.trod enc Tryz.prog w 0 (fun _ => true) true fuel KE.st [.slice a0 len cap0] = some (d, ps) from hf)
 exact ⟨a, cap, l, h1, h2, h3, h4, fun e he => (h5 e he).1, h6⟩
end Go.Proofs.YtnpfhcnjkekhbaaGreatDoor
