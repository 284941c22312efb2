/-
  Rows of integers of the call's own; the contract of the reference's Shuffle.
-/
import Derived.Test.YtdolmahodhgfpaaDoorSeedE
namespace Go.Proofs.YtdolmahodhgfpaaDoor
open Go Go.Proofs Go.RowKit Go.Lib

/-! ### int -/
theorem info_i64 : (Tryd.prog.info? 3).map (fun i => (i.zero, i.size, i.bytes)) = some (some (.int .i64 0), 1, 8) := by kernel_rfl
def Own64 (W : World) (base : Nat) (v : Value) (l : List Nat) : Prop := W.ownsRow base 3 1 v l.length (numVals .i64 l)
theorem Own64.nil (W : World) (base : Nat) : Own64 W base (.slice none 0 0) [] := World.ownsRow_nil _ _ _ _
theorem Own64.below {n base : Nat} {W W' : World} {v : Value} {p : List Nat} (h : Own64 W base v p) (hb : Below n W W') (hn : W.heap.size ≤ n) : Own64 W' base v p := own_below h hb hn
theorem Own64.heq {W W' : World} {base : Nat} {v : Value} {p : List Nat} (h : Own64 W base v p) (e : W'.heap = W.heap) : Own64 W' base v p := own_heap h (fun j _ => by rw [e])
theorem Own64.alloc {W : World} {base : Nat} {v : Value} {p : List Nat} (h : Own64 W base v p) (o : Obj) : Own64 (W.alloc o) base v p := own_heap h (fun k hk => Below.heap_alloc W o k hk)
theorem Own64.form {W : World} {base : Nat} {v : Value} {p : List Nat} (h : Own64 W base v p) (n : Nat) (hn : p.length = n) (h0 : 0 < n) :
    ∃ g cap, v = .slice (some ⟨g, 0, none⟩) n cap ∧ n ≤ cap ∧ base ≤ g ∧ g < W.heap.size ∧ NumsAt .i64 W g 0 p ∧ cap ≤ maxLen := by
  subst hn
  rcases h.2 with ⟨_, h1⟩ | ⟨g, cap, cur, hv, hb, hg, h2, h3, h4, h5⟩
  · omega
  · refine ⟨g, cap, hv, by omega, hb, ?_, ?_, h3⟩
    · rcases Nat.lt_or_ge g W.heap.size with hlt | hge
      · exact hlt
      · rw [Array.getElem?_eq_none hge] at hg; cases hg
    · intro j hj
      rw [cell_of_row W g (0 + j) cur _ _ hg, ← Array.getElem?_toList, ← List.getElem?_take_of_lt (j := p.length * 1) (by omega), h5]
      simp [numVals, hj]
theorem own64_new (W : World) (base : Nat) (l : List Nat) (hb : base ≤ W.heap.size) (hl : l.length ≤ maxLen) : Own64 (W.alloc (.cells (numVals .i64 l).toArray 3)) base (.slice (some ⟨W.heap.size, 0, none⟩) l.length l.length) l :=
  ⟨by simp [numVals], .inr ⟨W.heap.size, l.length, (numVals .i64 l).toArray, rfl, hb, heap_alloc_new W _, Nat.le_refl _, hl, by simp [numVals], by rw [List.take_of_length_le (by simp [numVals])]⟩⟩
theorem run_push64 (w w0 : World) (n : Nat) (ty : TypeId) (v : Value) (l p : List Nat) (hown : Own64 w n v l) (hb : Below n w0 w) (hn : n ≤ w.heap.size) (g o m c : Nat) (hm : p.length = m) (hc : NumsAt .i64 w g o p) (hl : l.length + m ≤ 17592186044416) :
    ∃ v' w', (Builtin.append_ #[31, 31] ty #[v, .slice (some ⟨g, o, none⟩) m c]).run Tryd.prog w = .ok v' w' ∧ Own64 w' n v' (l ++ p) ∧ Below n w0 w' ∧ w.grownBy w' v.ownBlock := by
  obtain ⟨i0, hi, hz0, hz1, hz2⟩ := info_parts info_i64
  subst hm
  obtain ⟨v', w', hrun, r1, r2, _⟩ := run_append_own (P := Tryd.prog) w n 31 ty 3 i0 (.int .i64 0) 1 8 Tryd.underlying31 hi hz0 hz1 hz2 rfl (by decide) v l.length (numVals .i64 l) hown
      ⟨g, o, none⟩ p.length c (numVals .i64 p) (by simp [numVals]) (by
        intro j u hj
        obtain ⟨h1, rfl⟩ := numVals_get hj
        rw [add_at]; exact hc j h1) numVals_one (by unfold maxLen; omega) (by omega) hn
  refine ⟨v', w', hrun, ?_, hb.grown r2 hn (own_ge hown), r2⟩
  unfold Own64
  rw [numVals_append, List.length_append]
  exact r1
theorem step_push64 {ops : Array Oper} {o : Oper} {a : Act} {w w0 : World} {K : Act → World → Prop} {Q : Exit → Act → World → Prop} {E : Prop}
    (hgd : o.guard = none) (s x : Operand) (hop : o.op = Op.call { callee := Callee.builtin Builtin.append, args := #[s, x], argTypes := #[31, 31] })
    (n : Nat) (v : Value) (l p : List Nat) (hs : a.eval s = v) (hown : Own64 w n v l) (hb : Below n w0 w) (hn : n ≤ w.heap.size) (g off m c : Nat) (hx : a.eval x = .slice (some ⟨g, off, none⟩) m c) (hm : p.length = m) (hc : NumsAt .i64 w g off p) (hl : l.length + m ≤ 17592186044416)
    (hK : ∀ v' w', Own64 w' n v' (l ++ p) → Below n w0 w' → w.grownBy w' v.ownBlock → K (a.put o.dst v') w') :
    if Region.wanted o (yielded ops a.tmps) = true then Oper.wp Tryd.prog o a w K Q else E := by
  have hw : Region.wanted o (yielded ops a.tmps) = true := by simp [Region.wanted, hgd]
  rw [if_pos hw]
  obtain ⟨v', w', hrun, r1, r2, r3⟩ := run_push64 w w0 n o.type v l p hown hb hn g off m c hm hc hl
  unfold Oper.wp
  simp [execOp, hop, resolve, invoke, builtin, hs, hx, hrun, Result.andThen]
  exact hK v' w' r1 r2 r3
theorem walk_push64 {ops : Array Oper} {o : Oper} {rest : List Oper} {a : Act} {w w0 : World} {Q : Exit → Act → World → Prop}
    (hgd : o.guard = none) (s x : Operand) (hop : o.op = Op.call { callee := Callee.builtin Builtin.append, args := #[s, x], argTypes := #[31, 31] })
    (n : Nat) (v : Value) (l p : List Nat) (hs : a.eval s = v) (hown : Own64 w n v l) (hb : Below n w0 w) (hn : n ≤ w.heap.size) (g off m c : Nat) (hx : a.eval x = .slice (some ⟨g, off, none⟩) m c) (hm : p.length = m) (hc : NumsAt .i64 w g off p) (hl : l.length + m ≤ 17592186044416)
    (hK : ∀ v' w', Own64 w' n v' (l ++ p) → Below n w0 w' → wpList Tryd.prog ops Q rest (a.put o.dst v') w') : wpList Tryd.prog ops Q (o :: rest) a w := by
  refine wpList_plain hgd fun K hK' => ?_
  obtain ⟨v', w', hrun, r1, r2, _⟩ := run_push64 w w0 n o.type v l p hown hb hn g off m c hm hc hl
  unfold Oper.wp
  simp [execOp, hop, resolve, invoke, builtin, hs, hx, hrun, Result.andThen]
  exact hK' _ _ (hK v' w' r1 r2)


/-- A block reads as a list of numbers, and they may be written. -/
def ListAt (W : World) (g : Nat) (l : List Nat) : Prop := ∀ j (h : j < l.length), W.cell? ⟨g, j, none⟩ = some (.int .i64 ((l[j] : Nat) : Int)) ∧ W.frozen? ⟨g, j, none⟩ = false
theorem ListAt.set {W : World} {g : Nat} {l : List Nat} (h : ListAt W g l) (i x : Nat) : ListAt (W.setCell ⟨g, i, none⟩ (.int .i64 ((x : Nat) : Int))) g (l.set i x) := by
  intro j hj
  have hj2 : j < l.length := by simpa using hj
  refine ⟨?_, by rw [World.frozen?_setCell]; exact (h j hj2).2⟩
  by_cases e : i = j
  · subst e
    rw [World.cell?_setCell_same _ _ _ (h i hj2).1]
    simp
  · rw [List.getElem_set_ne e]
    exact (World.cell?_setCell_other _ _ _ _ (fun e' => e (by injection e'))).trans (h j hj2).1
theorem ListAt.below {W W' : World} {g : Nat} {l : List Nat} (hg : g < W.heap.size) (h : ListAt W g l) (b : Below W.heap.size W W') : ListAt W' g l := fun j hj =>
  ⟨(b.cell (p := ⟨g, j, none⟩) hg).trans (h j hj).1, (b.frozen (p := ⟨g, j, none⟩) hg).trans (h j hj).2⟩
theorem Own64.list {W : World} {base : Nat} {v : Value} {p : List Nat} (h : Own64 W base v p) (h0 : 0 < p.length) :
    ∃ g cap, v = .slice (some ⟨g, 0, none⟩) p.length cap ∧ p.length ≤ cap ∧ base ≤ g ∧ g < W.heap.size ∧ ListAt W g p := by
  rcases h.2 with ⟨_, h1⟩ | ⟨g, cap, cur, hv, hb, hg, h2, h3, h4, h5⟩
  · omega
  · have hlt : g < W.heap.size := by
      rcases Nat.lt_or_ge g W.heap.size with hlt | hge
      · exact hlt
      · rw [Array.getElem?_eq_none hge] at hg; cases hg
    refine ⟨g, cap, hv, by omega, hb, hlt, fun j hj => ⟨?_, ?_⟩⟩
    · have := cell_of_row W g (0 + j) cur _ _ hg
      rw [Nat.zero_add] at this
      rw [this, ← Array.getElem?_toList, ← List.getElem?_take_of_lt (j := p.length * 1) (by omega), h5]
      simp [numVals, hj]
    · simp [World.frozen?, hg]
/-- Two elements change places. -/
def swapN (l : List Nat) (k d : Nat) : List Nat := (l.set k (l.getD d 0)).set d (l.getD k 0)
theorem swapN_length (l : List Nat) (k d : Nat) : (swapN l k d).length = l.length := by unfold swapN; simp
def shufF (s : ByteArray) : Nat → List Nat → Option (List Nat)
  | 0, l => some l
  | k + 1, l => match drawO s ((k + 1 : Nat) : Int) ((k + 2 : Nat) : Int) with
    | none => none
    | some d => shufF s k (swapN l (k + 1) d.toNat)
def shufB (s : ByteArray) (n : Int) : Bool := namedB s 0 && decide (0 ≤ n ∧ n ≤ 1000)
def shufO (s : ByteArray) (n : Int) : Option (List Nat) := if shufB s n then shufF s (n.toNat - 1) (List.range n.toNat) else none
theorem shufF_none {s : ByteArray} {k : Nat} {l : List Nat} (h : drawO s ((k + 1 : Nat) : Int) ((k + 2 : Nat) : Int) = none) : shufF s (k + 1) l = none := by unfold shufF; rw [h]
theorem shufF_some {s : ByteArray} {k : Nat} {l : List Nat} {d : Int} (h : drawO s ((k + 1 : Nat) : Int) ((k + 2 : Nat) : Int) = some d) : shufF s (k + 1) l = shufF s k (swapN l (k + 1) d.toNat) := by
  show (match drawO s ((k + 1 : Nat) : Int) ((k + 2 : Nat) : Int) with | none => none | some d => shufF s k (swapN l (k + 1) d.toNat)) = _
  rw [h]
/-- The integers of a list of numbers. -/
def intsN (l : List Nat) : List Int := l.map Int.ofNat
theorem intsN_length (l : List Nat) : (intsN l).length = l.length := by unfold intsN; simp
theorem intsL_of {W : World} {g : Nat} {l : List Nat} (hg : g < W.heap.size) (h : ListAt W g l) : IntsL W (some ⟨g, 0, none⟩) (intsN l) :=
  .inr ⟨g, 0, rfl, hg, fun i hi => by
    have hi2 : i < l.length := by rwa [intsN_length] at hi
    rw [Nat.zero_add, (h i hi2).1]
    simp [intsN]⟩
/-- What a call that returns a list and a code answers. -/
def ListPost6 (w : World) (o : Option (List Nat)) (e : Ending) (w' : World) : Prop :=
  (match o with
    | none => e = .returned (.tuple #[.slice none 0 0, .int .i64 60])
    | some l => ∃ ad c, e = .returned (.tuple #[.slice ad l.length c, .int .i64 0]) ∧ l.length ≤ c ∧ IntsL w' ad (intsN l)) ∧ Below w.heap.size w w'
theorem ListPost6.no {w w' : World} {o : Option (List Nat)} (h : o = none) (b : Below w.heap.size w w') : ListPost6 w o (.returned (.tuple #[.slice none 0 0, .int .i64 60])) w' := by subst h; exact ⟨rfl, b⟩
theorem ListPost6.yes {w w' : World} {o : Option (List Nat)} {l : List Nat} {ad : Option Addr} {n c : Nat} (h : o = some l) (hn : l.length = n) (hc : n ≤ c) (hI : IntsL w' ad (intsN l)) (b : Below w.heap.size w w') : ListPost6 w o (.returned (.tuple #[.slice ad n c, .int .i64 0])) w' := by
  subst h hn
  exact ⟨⟨ad, c, rfl, hc, hI⟩, b⟩
theorem Own64.any {W : World} {base : Nat} {v : Value} {p : List Nat} (h : Own64 W base v p) : ∃ ad c, v = .slice ad p.length c ∧ p.length ≤ c := by
  rcases h.2 with ⟨hv, h1⟩ | ⟨g, cap, cur, hv, hb, hg, h2, h3, h4, h5⟩
  · exact ⟨none, 0, by rw [hv, h1], by omega⟩
  · exact ⟨_, cap, hv, by omega⟩
theorem at_z6 (g n c k : Nat) (hk : k < n) (w : World) : (Instr.indexAt 31 (.slice (some ⟨g, 0, none⟩) n c) (.int .i64 (k : Int))).run Tryd.prog w = .ok (.pointer (some ⟨g, k, none⟩)) w := by
  have := at_ints6 g 0 n c k hk w
  rwa [Nat.zero_add] at this
theorem shufF_stop {s : ByteArray} {k : Nat} {l : List Nat} (hk : 1 ≤ k) (h : drawO s (k : Int) ((k : Int) + 1) = none) : shufF s k l = none := by
  obtain ⟨j, rfl⟩ : ∃ j, k = j + 1 := ⟨k - 1, by omega⟩
  exact shufF_none h
theorem shufF_go {s : ByteArray} {k : Nat} {l : List Nat} {d : Int} (hk : 1 ≤ k) (h : drawO s (k : Int) ((k : Int) + 1) = some d) : shufF s k l = shufF s (k - 1) (swapN l k d.toNat) := by
  obtain ⟨j, rfl⟩ : ∃ j, k = j + 1 := ⟨k - 1, by omega⟩
  exact shufF_some h
theorem ListAt.get {W : World} {g : Nat} {l : List Nat} (h : ListAt W g l) (j : Nat) (hj : j < l.length) : W.cell? ⟨g, j, none⟩ = some (.int .i64 ((l.getD j 0 : Nat) : Int)) ∧ W.frozen? ⟨g, j, none⟩ = false := by
  rw [List.getD_eq_getElem?_getD, List.getElem?_eq_getElem hj, Option.getD_some]
  exact h j hj
set_option maxRecDepth 100000 in
set_option maxHeartbeats 16000000 in
theorem shuffleR_any (s : ByteArray) (hs : s.size ≤ maxLen) (n : Int) (w : World) : Calls Tryd.prog 21 #[.string s, .int .i64 n] w (ListPost6 w (shufO s n)) := by
  have cn := fun W => namedR_any s hs 0 W
  cases hb : shufB s n with
  | false =>
    have HO := Lib.hid (show shufO s n = none by unfold shufO; rw [hb]; rfl)
    have HB := Lib.hid hb
    clear hb
    cases hn : namedB s 0 with
    | false =>
      rw [hn] at cn
      have CN := Lib.hid cn
      clear cn hn HB
      go_enter Tryd.func21, Tryd.ntmps21
      go_wp2_with fail
      refine (CN.out _).mono ?_
      rintro e z ⟨rfl, rfl⟩
      go_wp2
      go_ret2
      exact ListPost6.no HO.out (Below.refl _ _)
    | true =>
      have hne : ¬ (0 ≤ n ∧ n ≤ 1000) := by
        intro h
        have := HB.out
        unfold shufB at this
        rw [hn, decide_eq_true h] at this
        cases this
      rw [hn] at cn
      have CN := Lib.hid cn
      clear cn hn HB
      by_cases h1 : n < 0
      · clear hne
        go_enter Tryd.func21, Tryd.ntmps21
        go_wp2_with fail
        refine (CN.out _).mono ?_
        rintro e z ⟨rfl, rfl⟩
        go_wp2
        go_ret2
        exact ListPost6.no HO.out (Below.refl _ _)
      · have h2 : 1000 < n := by omega
        clear hne
        go_enter Tryd.func21, Tryd.ntmps21
        go_wp2_with fail
        refine (CN.out _).mono ?_
        rintro e z ⟨rfl, rfl⟩
        go_wp2
        go_ret2
        exact ListPost6.no HO.out (Below.refl _ _)
  | true =>
    have hb2 := hb
    unfold shufB at hb2
    rw [Bool.and_eq_true] at hb2
    obtain ⟨hn, hd⟩ := hb2
    have hd := of_decide_eq_true hd
    obtain ⟨m, rfl⟩ : ∃ m : Nat, n = (m : Int) := ⟨n.toNat, by omega⟩
    have HO := Lib.hid (show shufO s (m : Int) = shufF s (m - 1) (List.range m) by unfold shufO; rw [hb, Int.toNat_natCast]; rfl)
    have hm : m ≤ 1000 := by omega
    have hm0 : ¬ ((m : Int) < 0) := by omega
    have hm1 : ¬ (1000 < (m : Int)) := by omega
    rw [hn] at cn
    have CN := Lib.hid cn
    have CD := Lib.hid (fun i b W => drawR_any s hs i b W)
    clear cn hn hb hd
    generalize shufO s (m : Int) = O at *
    go_enter Tryd.func21, Tryd.ntmps21
    go_wp2_with fail
    refine (CN.out _).mono ?_
    rintro e z ⟨rfl, rfl⟩
    go_wp2_with fail
    go_loopw [6, 7] (fun v i wr => ∃ k : Nat, k ≤ m ∧ i = .int .i64 k ∧ Hid (Own64 wr w.heap.size v (List.range k)) ∧ Hid (Below w.heap.size w wr)) (fun _ i _ => m - (RowKit.intOf i).toNat)
    case atStart => exact ⟨0, Nat.zero_le _, rfl, Lib.hid (Own64.nil _ _), Lib.hid (Below.refl _ _)⟩
    case round =>
      obtain ⟨k, hk, rfl, HOWN, HB⟩ := hrel
      by_cases hlt : k < m
      · have hki : (k : Int) < (m : Int) := by omega
        have hpl : (List.range k).length + 1 ≤ 17592186044416 := by rw [List.length_range]; omega
        have HN := Lib.hid (show List.range (k + 1) = List.range k ++ [k] from List.range_succ)
        have hsize := HB.out.size
        have HLT := Lib.hid hlt
        obtain ⟨p, hp⟩ : ∃ p, List.range k = p := ⟨_, rfl⟩
        rw [hp] at HOWN HN hpl
        clear hp
        go_wp2_with (first | (at_builtin; refine walk_push64 (w0 := w) rfl _ _ rfl w.heap.size _ p [k] rfl (HOWN.out.alloc _) (HB.out.alloc hsize _) (Nat.le_trans hsize (by simp)) wr.heap.size 0 1 1 rfl rfl (new_num1 .i64 wr _ k rfl _) hpl ?_; intro v3 W3 ho3 hb3))
        go_roundw
        case rel => exact ⟨k + 1, HLT.out, by go_num, Lib.hid (by rw [HN.out]; exact ho3), Lib.hid hb3⟩
        case measure => simp [RowKit.intOf]; omega
      · obtain rfl : k = m := by omega
        have hki : ¬ (k : Int) < (k : Int) := by omega
        by_cases h0 : k = 0
        · subst h0
          obtain ⟨ad, c, rfl, _⟩ := HOWN.out.any
          have HO2 := Lib.hid (show O = some [] from HO.out)
          go_wp2_with fail
          go_loopw [8] (fun i wr' => i = .int .i64 (-1) ∧ wr' = wr) (fun _ _ => 0)
          case atStart => exact ⟨rfl, rfl⟩
          case round =>
            obtain ⟨rfl, rfl⟩ := hrel
            go_wp2
            go_ret2
            exact ListPost6.yes HO2.out rfl (Nat.zero_le _) (.inl rfl) HB.out
        · obtain ⟨g, cap, hv, hcap, hbg, hgl, hla⟩ := HOWN.out.list (by rw [List.length_range]; omega)
          rw [List.length_range] at hv hcap
          subst hv
          have HLA := Lib.hid hla; have HGL := Lib.hid hgl; have HBG := Lib.hid hbg; have HCAP := Lib.hid hcap
          clear hla hgl hbg hcap HOWN hki
          go_wp2_with fail
          go_loopw [8] (fun i wr' => ∃ (j : Nat) (l : List Nat), j + 1 ≤ k ∧ i = .int .i64 j ∧ l.length = k ∧ Hid (O = shufF s j l) ∧ Hid (ListAt wr' g l) ∧ Hid (Below w.heap.size w wr') ∧ Hid (g < wr'.heap.size)) (fun i _ => (RowKit.intOf i).toNat)
          case atStart => exact ⟨k - 1, List.range k, by omega, congrArg (Value.int .i64) (by omega), List.length_range, HO, HLA, HB, HGL⟩
          case round =>
            obtain ⟨j, l, hj, rfl, hl, HF, HL, HBB, HG⟩ := hrel
            by_cases h1 : 1 ≤ j
            · have hji : (1 : Int) ≤ (j : Int) := by omega
              have hjb : (j : Int) + 1 ≤ 1000 := by omega
              have HJ := Lib.hid h1; have HJK := Lib.hid hj; have HLL := Lib.hid hl
              clear hl hj h1
              go_wp2_with fail
              refine (CD.out _ _ _).mono ?_
              rintro e z1 ⟨rfl, b1⟩
              have HB2 := Lib.hid (below_up6 HBB.out b1)
              have HL2 := Lib.hid (HL.out.below HG.out b1)
              have HG2 := Lib.hid (Nat.lt_of_lt_of_le HG.out b1.size)
              clear b1 HL HG HBB
              cases hd : drawO s (j : Int) ((j : Int) + 1) with
              | none =>
                obtain ⟨v1, v2⟩ := draw_none hd
                have HS := Lib.hid (HF.out.trans (shufF_stop HJ.out hd))
                clear hd
                rw [v1, v2]
                clear v1 v2
                go_wp2
                go_ret2
                exact ListPost6.no HS.out HB2.out
              | some d =>
                obtain ⟨v1, v2⟩ := draw_some hd
                have hr := drawO_range hd
                have HS := Lib.hid (HF.out.trans (shufF_go HJ.out hd))
                obtain ⟨dn, rfl⟩ : ∃ dn : Nat, d = (dn : Int) := ⟨d.toNat, by omega⟩
                rw [Int.toNat_natCast] at HS
                have hdj : dn ≤ j := by omega
                clear hd
                rw [v1, v2]
                clear v1 v2 hr
                have hjk := HJK.out
                have hll := HLL.out
                obtain ⟨c1, f1⟩ := HL2.out.get j (by omega)
                obtain ⟨c2, f2⟩ := HL2.out.get dn (by omega)
                have a1 := fun W => at_z6 g k cap j (by omega) W
                have a2 := fun W => at_z6 g k cap dn (by omega) W
                obtain ⟨x, hx⟩ : ∃ x, l.getD j 0 = x := ⟨_, rfl⟩
                obtain ⟨y, hy⟩ : ∃ y, l.getD dn 0 = y := ⟨_, rfl⟩
                rw [hx] at c1
                rw [hy] at c2
                obtain ⟨y1, hy1⟩ : ∃ W, z1.setCell ⟨g, j, none⟩ (.int .i64 ((y : Nat) : Int)) = W := ⟨_, rfl⟩
                have HL3 := Lib.hid (show ListAt y1 g (l.set j y) by rw [← hy1]; exact HL2.out.set j y)
                have HN := Lib.hid (show ListAt (y1.setCell ⟨g, dn, none⟩ (.int .i64 ((x : Nat) : Int))) g (swapN l j dn) by unfold swapN; rw [hx, hy]; exact HL3.out.set dn x)
                have HB3 := Lib.hid (show Below w.heap.size w (y1.setCell ⟨g, dn, none⟩ (.int .i64 ((x : Nat) : Int))) by rw [← hy1]; exact (HB2.out.setCell (p := ⟨g, j, none⟩) HBG.out _).setCell (p := ⟨g, dn, none⟩) HBG.out _)
                have HG3 := Lib.hid (show g < (y1.setCell ⟨g, dn, none⟩ (.int .i64 ((x : Nat) : Int))).heap.size by rw [← hy1]; simpa using HG2.out)
                have HY := Lib.hid hy1
                clear hx hy hy1 hll
                go_upto_region 16 with fail
                rw [HY.out]
                obtain ⟨c3, f3⟩ := HL3.out.get dn (by rw [List.length_set]; have := HLL.out; omega)
                generalize (l.set j y).getD dn 0 = v at *
                clear c1 f1 c2 f2
                go_wp2_with fail
                go_roundw
                case rel => exact ⟨j - 1, swapN l j dn, by omega, congrArg (Value.int .i64) (by omega), (swapN_length _ _ _).trans HLL.out, HS, HN, HB3, HG3⟩
                case measure => simp [RowKit.intOf]; omega
            · obtain rfl : j = 0 := by omega
              have hji : ¬ (1 : Int) ≤ ((0 : Nat) : Int) := by omega
              go_wp2
              go_ret2
              exact ListPost6.yes HF.out hl HCAP.out (intsL_of HG.out HL.out) HBB.out
end Go.Proofs.YtdolmahodhgfpaaDoor
