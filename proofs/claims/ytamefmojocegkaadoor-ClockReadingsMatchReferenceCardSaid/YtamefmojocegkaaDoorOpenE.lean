/-
  What came in: a slice of events, a fleet, a clock.
-/
import Derived.Test.YtamefmojocegkaaDoorK03
import Derived.ProofKit
import Derived.OpenShut
import Derived.ShutString
import Derived.Deep.DeepHandedRow
import Derived.Deep.Slices
import Derived.Deep.MidRow
import Derived.Carry
import Derived.Lib.SmallJoins
namespace Go.Proofs.YtamefmojocegkaaDoor
open Go Go.Proofs Go.ChangeShapes Go.WideShapes Go.ChangeAt Go.RowKit

theorem cell1E : Tryd.prog.cellsOf 3 = 1 := by kernel_rfl
theorem block_of_cellE {W : World} {a : Addr} {v : Value} (h : W.cell? a = some v) : a.block < W.heap.size := by
  unfold World.cell? at h
  split at h
  · rename_i hb
    exact (Array.getElem?_eq_some_iff.1 hb).1
  · cases h
set_option maxRecDepth 100000 in
theorem open_rowE {T : Type} [Inhabited T] (K : RowK T) (P : T → Prop) {H : Type} {enc : TypeId × Value → H} {w : World} (hc : Tryd.prog.cellsOf K.et = K.n)
    (hone : ∀ t : T, ∃ u, (K.cs t)[0]? = some u) (hel : ∀ (fuel : Nat) (cs : List Value) (x : DataW H × List MemPlace), DataW.trod enc Tryd.prog w 0 (fun _ => true) true fuel K.et cs = some x → ∃ t, cs = K.cs t ∧ P t)
    {fuel : Nat} {v : Value} {x : DataW H × List MemPlace} (hf : DataW.trod enc Tryd.prog w 0 (fun _ => true) true fuel K.st [v] = some x) :
    ∃ (a : Option Addr) (cap : Nat) (l : List T), v = .slice a l.length cap ∧ l.length ≤ maxLen ∧ l.length ≤ cap ∧ RL K w a l ∧ ∀ t ∈ l, P t := by
  rcases Deep.open_slice K.und hf with ⟨hcs, _⟩ | ⟨x, len, cap, m, nf, D, Pl, hcs, _, hl, hm, hmm, _, hel2⟩
  · obtain rfl : v = .slice none 0 0 := by simpa using hcs
    exact ⟨none, 0, [], rfl, Nat.zero_le _, Nat.zero_le _, .inl rfl, fun i hi => nomatch hi⟩
  · obtain rfl : v = .slice (some x) len cap := by simpa using hcs
    rw [hc] at hel2
    have hlm : len ≤ m := by rw [hmm]; split <;> omega
    obtain ⟨V, hV⟩ := Deep.choose_lt (α := T) (n := len) (p := fun i d => w.cells? 0 (x.add (i * K.n)) K.n = some (K.cs d) ∧ P d) (fun i hi => by
      obtain ⟨cs', h1, h2⟩ := hel2 i (by omega)
      obtain ⟨d, rfl, h3⟩ := hel _ _ _ h2
      exact ⟨d, h1, h3⟩)
    have hll : ((List.range len).map V).length = len := by simp
    refine ⟨some x, cap, (List.range len).map V, by rw [hll], by rw [hll]; omega, by rw [hll]; exact hl, ?_, fun d hd => ?_⟩
    · by_cases h0 : len = 0
      · exact .inl (by subst h0; rfl)
      · right
        obtain ⟨_, _, c0⟩ := World.cells?_some (hV 0 (by omega)).1
        obtain ⟨u, hu⟩ := hone (V 0)
        have c00 := (c0 0 K.pos).trans hu
        have hs := World.cell?_spot c00
        obtain ⟨xb, xo, xs⟩ := x
        rw [Nat.zero_mul, Addr.add_zero', Addr.add_zero'] at hs c00
        have hs : xs = none := hs
        subst hs
        refine ⟨xb, xo, rfl, block_of_cellE c00, fun i hi j hj => ?_⟩
        rw [hll] at hi
        obtain ⟨_, _, ci⟩ := World.cells?_some (hV i hi).1
        have hcj := ci j hj
        rw [Addr.add_mid, Addr.add_mid, Nat.mul_comm i K.n] at hcj
        rw [List.getElem_map, List.getElem_range]
        exact hcj
    · obtain ⟨i, hi, rfl⟩ := List.mem_map.1 hd
      exact (hV i (List.mem_range.1 hi)).2
def InI (x : Int) : Prop := -9223372036854775808 ≤ x ∧ x ≤ 9223372036854775807
theorem int_ofE {H : Type} {enc : TypeId × Value → H} {w : World} (fuel : Nat) (cs : List Value) (x : DataW H × List MemPlace) (h : DataW.trod enc Tryd.prog w 0 (fun _ => true) true fuel 3 cs = some x) : ∃ t : Int, cs = KI.cs t ∧ InI t := by
  obtain ⟨n0, e0, _, b0⟩ := DataW.trod_int Tryd.underlying3 h
  subst e0
  exact ⟨n0, rfl, bounds_i64 b0⟩
set_option maxRecDepth 100000 in
theorem open_intsE {H : Type} {enc : TypeId × Value → H} {w : World} {fuel : Nat} {v : Value} {x : DataW H × List MemPlace} (hf : DataW.trod enc Tryd.prog w 0 (fun _ => true) true fuel 22 [v] = some x) :
    ∃ (a : Option Addr) (cap : Nat) (l : List Int), v = .slice a l.length cap ∧ l.length ≤ maxLen ∧ l.length ≤ cap ∧ RL KI w a l ∧ ∀ t ∈ l, InI t :=
  open_rowE KI InI cell1E (fun _ => ⟨_, rfl⟩) int_ofE hf
/-! ### events -/
instance : Inhabited Ev := ⟨⟨0, 0, 0, 0, 0, 0, 0, 0, 0, 0, 0, 0⟩⟩
structure EvIn (e : Ev) : Prop where
  wf : e.wf
theorem ev_cells12 : Tryd.prog.cellsOf 46 = 12 := by kernel_rfl
noncomputable def evFields : Array Field := match Tryd.prog.underlying 46 with
  | some (.struct fs) => fs
  | _ => #[]
set_option maxRecDepth 100000 in
theorem ev_under : Tryd.prog.underlying 46 = some (.struct evFields) := by kernel_rfl
theorem ev_fields : (evFields.toList.map fun f => (f.type, f.offset)) = (List.range 12).map fun i => (3, i) := by kernel_rfl
theorem ev_size : evFields.size = 12 := by kernel_rfl
set_option maxRecDepth 100000 in
theorem ev_field {i : Nat} (hi : i < 12) : ∃ f, evFields[i]? = some f ∧ f.type = 3 ∧ f.offset = i := by
  have h := congrArg (fun l => l[i]?) ev_fields
  simp only [List.getElem?_map, List.getElem?_range hi, Option.map_some] at h
  rw [Option.map_eq_some_iff] at h
  obtain ⟨f, h1, h2⟩ := h
  injection h2 with h2 h3
  exact ⟨f, by rw [← Array.getElem?_toList]; exact h1, h2, h3⟩
set_option maxRecDepth 100000 in
theorem ev_ofE {H : Type} {enc : TypeId × Value → H} {w : World} (fuel : Nat) (cs : List Value) (x : DataW H × List MemPlace) (h : DataW.trod enc Tryd.prog w 0 (fun _ => true) true fuel 46 cs = some x) : ∃ t : Ev, cs = KE.cs t ∧ t.wf ∧ (InI t.ag ∧ InI t.tm) := by
  obtain ⟨xs, m, _, hx, hl, hn, hel⟩ := DataW.trod_struct ev_under h
  rw [ev_cells12] at hl
  have key : ∀ i, i < 12 → ∃ n : Int, cs[i]? = some (.int .i64 n) ∧ (Lit.int .i64 n).wf = true := fun i hi => by
    obtain ⟨f, hf, ht, ho⟩ := ev_field hi
    have h1 := hel i f hf
    have hlen : i < xs.length := by rw [hn, ev_size]; exact hi
    rw [ht, ho, cell1E, List.getElem?_eq_getElem hlen] at h1
    obtain ⟨n0, e0, _, b0⟩ := DataW.trod_int Tryd.underlying3 h1
    refine ⟨n0, ?_, b0⟩
    have := congrArg (fun l => l[0]?) e0
    simpa [List.getElem?_take, List.getElem?_drop] using this
  match cs, hl, key with
  | [u0, u1, u2, u3, u4, u5, u6, u7, u8, u9, u10, u11], _, key =>
    obtain ⟨n0, e0, b0⟩ := key 0 (by decide); obtain ⟨n1, e1, b1⟩ := key 1 (by decide); obtain ⟨n2, e2, b2⟩ := key 2 (by decide); obtain ⟨n3, e3, b3⟩ := key 3 (by decide)
    obtain ⟨n4, e4, b4⟩ := key 4 (by decide); obtain ⟨n5, e5, b5⟩ := key 5 (by decide); obtain ⟨n6, e6, b6⟩ := key 6 (by decide); obtain ⟨n7, e7, b7⟩ := key 7 (by decide)
    obtain ⟨n8, e8, b8⟩ := key 8 (by decide); obtain ⟨n9, e9, b9⟩ := key 9 (by decide); obtain ⟨n10, e10, b10⟩ := key 10 (by decide); obtain ⟨n11, e11, b11⟩ := key 11 (by decide)
    obtain rfl := Option.some.inj (show some u0 = some _ from e0); obtain rfl := Option.some.inj (show some u1 = some _ from e1); obtain rfl := Option.some.inj (show some u2 = some _ from e2); obtain rfl := Option.some.inj (show some u3 = some _ from e3)
    obtain rfl := Option.some.inj (show some u4 = some _ from e4); obtain rfl := Option.some.inj (show some u5 = some _ from e5); obtain rfl := Option.some.inj (show some u6 = some _ from e6); obtain rfl := Option.some.inj (show some u7 = some _ from e7)
    obtain rfl := Option.some.inj (show some u8 = some _ from e8); obtain rfl := Option.some.inj (show some u9 = some _ from e9); obtain rfl := Option.some.inj (show some u10 = some _ from e10); obtain rfl := Option.some.inj (show some u11 = some _ from e11)
    exact ⟨⟨n0, n1, n2, n3, n4, n5, n6, n7, n8, n9, n10, n11⟩, rfl, b3, bounds_i64 b0, bounds_i64 b2⟩
set_option maxRecDepth 100000 in
theorem open_events8 {H : Type} {enc : TypeId × Value → H} {w : World} {b0 : Nat} {v : Value} {d : DataW H} {ps : List MemPlace}
    (hval : Value.okWide Tryd.prog w .any b0 25 v) (hd : DataW.Trod enc Tryd.prog w 0 (fun _ => true) true 25 v d ps) :
    ∃ (a : Option Addr) (cap : Nat) (l : List Ev), v = .slice a l.length cap ∧ l.length ≤ maxLen ∧ l.length ≤ cap ∧ RL KE w a l ∧ evsW l := by
  obtain ⟨a0, len, cap0, rfl⟩ := okWide_slice Tryd.underlying25 hval
  obtain ⟨fuel, hf⟩ := hd
  obtain ⟨a, cap, l, h1, h2, h3, h4, h5⟩ := open_rowE KE (fun t => t.wf ∧ (InI t.ag ∧ InI t.tm)) ev_cells12 (fun _ => ⟨_, rfl⟩) ev_ofE (show DataW.trod enc Tryd.prog w 0 (fun _ => true) true fuel KE.st [.slice a0 len cap0] = some (d, ps) from hf)
  exact ⟨a, cap, l, h1, h2, h3, h4, fun e he => (h5 e he).1⟩
/-! ### a fleet -/
theorem fl_cells5 : Tryd.prog.cellsOf 24 = 5 := by kernel_rfl
theorem ints_cells1 : Tryd.prog.cellsOf 22 = 1 := by kernel_rfl
noncomputable def flFields : Array Field := match Tryd.prog.underlying 24 with
  | some (.struct fs) => fs
  | _ => #[]
set_option maxRecDepth 100000 in
theorem fl_under : Tryd.prog.underlying 24 = some (.struct flFields) := by kernel_rfl
theorem fl_fields : (flFields.toList.map fun f => (f.type, f.offset)) = [(22, 0), (3, 1), (3, 2), (22, 3), (22, 4)] := by kernel_rfl
theorem fl_size : flFields.size = 5 := by kernel_rfl
set_option maxRecDepth 100000 in
theorem fl_field {i : Nat} {t : TypeId} {o : Nat} (h : [(22, 0), (3, 1), (3, 2), (22, 3), (22, 4)][i]? = some (t, o)) : ∃ f, flFields[i]? = some f ∧ f.type = t ∧ f.offset = o := by
  rw [← fl_fields, List.getElem?_map, Option.map_eq_some_iff] at h
  obtain ⟨f, h1, h2⟩ := h
  injection h2 with h2 h3
  exact ⟨f, by rw [← Array.getElem?_toList]; exact h1, h2, h3⟩
theorem array5 {α : Type} {cs : Array α} (h : cs.size = 5) : ∃ c0 c1 c2 c3 c4, cs = #[c0, c1, c2, c3, c4] := by
  obtain ⟨l⟩ := cs
  match l, h with
  | [c0, c1, c2, c3, c4], _ => exact ⟨c0, c1, c2, c3, c4, rfl⟩
set_option maxRecDepth 100000 in
theorem open_fleet8 {H : Type} {enc : TypeId × Value → H} {w : World} {b0 : Nat} {v : Value} {d : DataW H} {ps : List MemPlace}
    (hval : Value.okWide Tryd.prog w .any b0 24 v) (hd : DataW.Trod enc Tryd.prog w 0 (fun _ => true) true 24 v d ps) :
    ∃ (a1 a2 a3 : Option Addr) (c1 c2 c3 : Nat) (f : Fl), v = .agg #[.slice a1 f.dr.length c1, .int .i64 f.lat, .int .i64 f.lia, .slice a2 f.sv.length c2, .slice a3 f.tm.length c3] ∧ (f.dr.length ≤ maxLen ∧ f.sv.length ≤ maxLen ∧ f.tm.length ≤ maxLen) ∧ (f.dr.length ≤ c1 ∧ f.sv.length ≤ c2 ∧ f.tm.length ≤ c3) ∧ RL KI w a1 f.dr ∧ RL KI w a2 f.sv ∧ RL KI w a3 f.tm := by
  obtain ⟨cs, rfl, hsz⟩ := okWide_struct fl_under hval
  obtain ⟨u0, u1, u2, u3, u4, rfl⟩ := array5 (hsz.trans fl_cells5)
  obtain ⟨fuel, hf⟩ := hd
  obtain ⟨xs, m, _, hx, hl, hn, hel⟩ := DataW.trod_struct fl_under hf
  have g0 : ∃ x, DataW.trod enc Tryd.prog w 0 (fun _ => true) true m 22 [u0] = some x := by
    obtain ⟨f, hf, ht, ho⟩ := fl_field (i := 0) rfl
    have := (hel 0 f hf).trans (List.getElem?_eq_getElem (show 0 < xs.length by rw [hn, fl_size]; decide))
    rw [ht, ho, ints_cells1] at this
    exact ⟨_, this⟩
  have g1 : ∃ x, DataW.trod enc Tryd.prog w 0 (fun _ => true) true m 3 [u1] = some x := by
    obtain ⟨f, hf, ht, ho⟩ := fl_field (i := 1) rfl
    have := (hel 1 f hf).trans (List.getElem?_eq_getElem (show 1 < xs.length by rw [hn, fl_size]; decide))
    rw [ht, ho, cell1E] at this
    exact ⟨_, this⟩
  have g2 : ∃ x, DataW.trod enc Tryd.prog w 0 (fun _ => true) true m 3 [u2] = some x := by
    obtain ⟨f, hf, ht, ho⟩ := fl_field (i := 2) rfl
    have := (hel 2 f hf).trans (List.getElem?_eq_getElem (show 2 < xs.length by rw [hn, fl_size]; decide))
    rw [ht, ho, cell1E] at this
    exact ⟨_, this⟩
  have g3 : ∃ x, DataW.trod enc Tryd.prog w 0 (fun _ => true) true m 22 [u3] = some x := by
    obtain ⟨f, hf, ht, ho⟩ := fl_field (i := 3) rfl
    have := (hel 3 f hf).trans (List.getElem?_eq_getElem (show 3 < xs.length by rw [hn, fl_size]; decide))
    rw [ht, ho, ints_cells1] at this
    exact ⟨_, this⟩
  have g4 : ∃ x, DataW.trod enc Tryd.prog w 0 (fun _ => true) true m 22 [u4] = some x := by
    obtain ⟨f, hf, ht, ho⟩ := fl_field (i := 4) rfl
    have := (hel 4 f hf).trans (List.getElem?_eq_getElem (show 4 < xs.length by rw [hn, fl_size]; decide))
    rw [ht, ho, ints_cells1] at this
    exact ⟨_, this⟩
  obtain ⟨_, g0⟩ := g0; obtain ⟨_, g1⟩ := g1; obtain ⟨_, g2⟩ := g2; obtain ⟨_, g3⟩ := g3; obtain ⟨_, g4⟩ := g4
  obtain ⟨a1, c1, l1, rfl, h1, k1, r1, _⟩ := open_intsE g0
  obtain ⟨n1, e1, _⟩ := int_ofE _ _ _ g1
  obtain ⟨n2, e2, _⟩ := int_ofE _ _ _ g2
  obtain ⟨a2, c2, l2, rfl, h2, k2, r2, _⟩ := open_intsE g3
  obtain ⟨a3, c3, l3, rfl, h3, k3, r3, _⟩ := open_intsE g4
  obtain rfl : u1 = .int .i64 n1 := by injection e1
  obtain rfl : u2 = .int .i64 n2 := by injection e2
  exact ⟨a1, a2, a3, c1, c2, c3, ⟨l1, n1, n2, l2, l3⟩, rfl, ⟨h1, h2, h3⟩, ⟨k1, k2, k3⟩, r1, r2, r3⟩
/-! ### a clock -/
instance : Inhabited An := ⟨⟨0, 0⟩⟩
theorem an_cells2 : Tryd.prog.cellsOf 60 = 2 := by kernel_rfl
set_option maxRecDepth 100000 in
theorem an_under : Tryd.prog.underlying 60 = some (.struct #[{ name := "At", type := 3, offset := 0, embedded := false, tag := "", pkgPath := "", byteOffset := 0 }, { name := "Time", type := 3, offset := 1, embedded := false, tag := "", pkgPath := "", byteOffset := 8 }]) := by kernel_rfl
set_option maxRecDepth 100000 in
theorem an_ofE {H : Type} {enc : TypeId × Value → H} {w : World} (fuel : Nat) (cs : List Value) (x : DataW H × List MemPlace) (h : DataW.trod enc Tryd.prog w 0 (fun _ => true) true fuel 60 cs = some x) : ∃ t : An, cs = KA.cs t ∧ InI t.a ∧ InI t.t := by
  obtain ⟨y0, y1, n, hx, hl, h0, h1⟩ := trod_struct2 an_under h
  rw [an_cells2] at hl
  match cs, hl with
  | [u0, u1], _ =>
    obtain ⟨n0, e0, _, b0⟩ := DataW.trod_int Tryd.underlying3 (h0.trans rfl)
    obtain ⟨n1, e1, _, b1⟩ := DataW.trod_int Tryd.underlying3 (h1.trans rfl)
    simp [cell1E] at e0 e1
    subst e0 e1
    exact ⟨⟨n0, n1⟩, rfl, bounds_i64 b0, bounds_i64 b1⟩
set_option maxRecDepth 100000 in
theorem cl_under : Tryd.prog.underlying 50 = some (.struct #[{ name := "Drift", type := 3, offset := 0, embedded := false, tag := "", pkgPath := "", byteOffset := 0 }, { name := "Anchors", type := 48, offset := 1, embedded := false, tag := "", pkgPath := "", byteOffset := 8 }]) := by kernel_rfl
set_option maxRecDepth 100000 in
theorem open_clock8 {H : Type} {enc : TypeId × Value → H} {w : World} {b0 : Nat} {v : Value} {d : DataW H} {ps : List MemPlace}
    (hval : Value.okWide Tryd.prog w .any b0 50 v) (hd : DataW.Trod enc Tryd.prog w 0 (fun _ => true) true 50 v d ps) :
    ∃ (a : Option Addr) (c : Nat) (dr : Int) (l : List An), v = .agg #[.int .i64 dr, .slice a l.length c] ∧ l.length ≤ maxLen ∧ l.length ≤ c ∧ RL KA w a l := by
  obtain ⟨v0, v1, y0, y1, n, rfl, _, _, h0, h1⟩ := Joins.open_agg2 cl_under (by kernel_rfl) (by kernel_rfl) hval hd
  obtain ⟨n0, e0, _⟩ := int_ofE _ _ _ h0
  obtain ⟨a, c, l, rfl, h2, h3, h4, _⟩ := open_rowE KA (fun t => InI t.a ∧ InI t.t) an_cells2 (fun _ => ⟨_, rfl⟩) an_ofE h1
  obtain rfl : v0 = .int .i64 n0 := by injection e0
  exact ⟨a, c, n0, l, rfl, h2, h3, h4⟩
end Go.Proofs.YtamefmojocegkaaDoor
