/-
  An append as one step of a drawn region, in whatever fence.
  The contract of package integer's natural.text.
-/
import Derived.Test.YtlcibnmcannapaaGreatDoorGfold
import Derived.Stop.RegionWithIn
import Derived.Test.YtlcibnmcannapaaGreatDoorGstr
import Derived.Test.YtlcibnmcannapaaGreatDoorGdefs
namespace Go.Proofs.YtlcibnmcannapaaGreatDoor
open Go Go.Proofs Go.RowKit Go.Lib

attribute [local go_sem] Oper.semAt_some

/-- An append, as one step of a drawn region, in whatever fence. -/
theorem step_appendIn {F : Fence} {n : Nat} {P : Program} {y : Nat → Option Bool} {o : Oper} {a : Act} {w : World} {K : Act → World → Prop} {Q : Exit → Act → World → Prop} {E : Prop}
    (hg : o.guard = none) (s x : Operand) (t : TypeId) (hop : o.op = Op.call { callee := Callee.builtin Builtin.append, args := #[s, x], argTypes := #[t, t] }) (ht : o.type = t)
    (u v : Value) (hs : a.eval s = u) (hx : a.eval x = v) (r : Value) (W' : World) (hrun : (Builtin.append_ #[t, t] t #[u, v]).run P w = .ok r W') (hK : K (a.put o.dst r) W') :
    if Region.wanted o y = true then Oper.wpIn F n P o a w K Q else E := by
  have hw : Region.wanted o y = true := by simp [Region.wanted, hg]
  rw [if_pos hw]
  unfold Oper.wpIn
  refine ⟨by simp [Oper.about, hop, resolve, Target.leads, Sem.run_pure], ?_⟩
  rw [Oper.semAt_eq _ _ _ (by intro c hc; rw [hop] at hc; cases hc)]
  simp [execOp, hop, ht, resolve, invoke, builtin, hs, hx, hrun, Result.andThen]
  exact hK

end Go.Proofs.YtlcibnmcannapaaGreatDoor

namespace Go.Proofs.YtlcibnmcannapaaGreatDoor
open Go Go.Proofs Go.RowKit Go.Lib

attribute [local go_sem] Oper.semAt_some

/-- The library's table of powers of ten lies as its initialiser lays it. -/
def Ready (w : World) : Prop := Lib.TabIs Tryz.prog w "internal/strconv.uint64pow10" .u64 Lib.pow10Tab
theorem Ready.below {w w' : World} (h : Ready w) (b : Below w.heap.size w w') : Ready w' := Lib.tabBelow_of_tabIs h w' b

def CutPost2 {α : Type} (A : α → Act) (I : α → World → Prop) : Exit → Act → World → Prop
  | .normal, a', w' => ∃ x, a' = A x ∧ I x w'
  | _, _, _ => False
theorem code_cut2 {α : Type} {F : Fence} {n : Nat} {P : Program} {c : Code} {Q : Exit → Act → World → Prop} {a : Act} {w : World} (A : α → Act) (I : α → World → Prop) (h : c.wpIn F n P (CutPost2 A I) a w) (hp : ∀ x w', I x w' → Q .normal (A x) w') : c.wpIn F n P Q a w :=
  wpIn_mono h (fun e a' w' h => by
    cases e with
    | normal => obtain ⟨x, h2, h3⟩ := h; subst h2; exact hp x w' h3
    | ret => exact h.elim
    | exit id => exact h.elim
    | goto t => exact h.elim
    | panic ch => exact h.elim
    | outgrown => exact h.elim)
theorem itoa_cells (g : Nat) : Lib.byteCells (Lib.itoa ((g : Nat) : Int)) = numVals .u8 (textN g) := by
  unfold Lib.byteCells numVals
  rw [← itoa_nat, List.map_map]
  rfl
theorem itoa_len (g : Nat) : (Lib.itoa ((g : Nat) : Int)).length = (textN g).length := by rw [← itoa_nat, List.length_map]
theorem own8_made (W : World) (base k : Nat) (hb : base ≤ W.heap.size) (hk : k ≤ 1000000) : Own8 (W.alloc (.cells (numVals .u8 (List.replicate k 0)).toArray 5)) base (.slice (some ⟨W.heap.size, 0, none⟩) 0 k) [] :=
  ⟨by simp [numVals], .inr ⟨W.heap.size, k, (numVals .u8 (List.replicate k 0)).toArray, rfl, hb, heap_alloc_new W _, Nat.zero_le _, by unfold maxLen; omega, by simp [numVals], by simp [numVals]⟩⟩
theorem made_zeros8 (n : Nat) : madeCells (Value.int .u8 0).cells (n * 1) = (numVals .u8 (List.replicate n 0)).toArray := by
  apply Array.ext
  · rw [size_madeCells]; simp [numVals]
  · intro i h1 h2
    simp [madeCells, numVals, Value.cells, Nat.mod_one]
theorem make_bytes0 (n : Nat) (hn : n ≤ 1000000) (W : World) (z : Int) (hz : z = (n : Nat)) :
    (Instr.makeSlice 48 (.int .i64 0) (.int .i64 z)).run Tryz.prog W = .ok (.slice (some ⟨W.heap.size, 0, none⟩) 0 n) (W.alloc (.cells (numVals .u8 (List.replicate n 0)).toArray 5)) := by
  subst hz
  obtain ⟨i0, hi, hz0, hz1, hz2⟩ := info_parts info_u8
  have h := run_make (P := Tryz.prog) W 48 5 i0 (.int .u8 0) Tryz.underlying48 hi hz0 .i64 .i64 (0 : Int) (n : Int) (by omega) (by omega) (by rw [hz2]; omega) (by omega)
  rw [hz1, Int.toNat_natCast, made_zeros8] at h
  exact h
/-- A row of bytes and a box that holds it. -/
def RowBox (n0 : Nat) (w : World) (L : List Nat) (B : Nat) (v : Value) (W : World) : Prop := Boxed W B 48 v ∧ Own8 W n0 v L ∧ Below n0 w W ∧ n0 ≤ B

theorem box_row_ne : (48 : TypeId) ≠ 5 := by decide
/-- A store into a box leaves a row of bytes as it lies. -/
theorem own8_setBox {W : World} {base B : Nat} {v u : Value} {L : List Nat} (h : Own8 W base v L) (hb : Boxed W B 48 u) (x : Value) : Own8 (W.setCell ⟨B, 0, none⟩ x) base v L := by
  have hne := hb.not_row box_row_ne h
  refine ⟨h.1, h.2.imp id ?_⟩
  rintro ⟨g, cap, cur, rfl, hbg, hh, r⟩
  refine ⟨g, cap, cur, rfl, hbg, ?_, r⟩
  exact (Below.heap_setCell W ⟨B, 0, none⟩ x g (by intro e; exact hne (by subst e; rfl))).trans hh
theorem boxed_others {W W' : World} {B : Nat} {u : Value} (hb : Boxed W B 48 u) (hk : Lib.OthersKept 5 none W W') : Boxed W' B 48 u :=
  hk B _ hb (by simp) (fun c fz e => by cases e)

theorem textN_len_le {n c : Nat} (h : n < 10000 ^ c) : (textN n).length ≤ 4 * c + 1 := by
  unfold textN
  split
  · simp
  · have h2 := digs_length_le (4 * c) n (by rw [pow4]; exact h)
    simp
    omega
def unitN : Nat → Nat
  | 0 => 1000
  | 1 => 100
  | 2 => 10
  | 3 => 1
  | _ => 0
theorem unit_step (g t : Nat) (ht : t < 4) : 0 < unitN t ∧ unitN t ≤ 1000 ∧ unitN (t + 1) = unitN t / 10 ∧ (fourD g).take (t + 1) = (fourD g).take t ++ [48 + g / unitN t % 10] := by
  have : t = 0 ∨ t = 1 ∨ t = 2 ∨ t = 3 := by omega
  rcases this with rfl | rfl | rfl | rfl <;> exact ⟨by decide, by decide, by decide, rfl⟩
/-- What lies between two rounds of text's inner loop. -/
def TxtW (n0 B bb R : Nat) (w V2 : World) (sl : Value) (L : List Nat) (g t : Nat) (W : World) : Prop :=
  (∃ v, Boxed W B 48 v ∧ Own8 W n0 v (L ++ (fourD g).take t)) ∧ Boxed W bb 88 sl ∧ Below n0 w W ∧ KeepsFrom R V2 W ∧ (∀ i, (i < n0 ∨ i = bb) → W.heap[i]? = V2.heap[i]?)
theorem nat_row_ne : (88 : TypeId) ≠ 5 := by decide
set_option maxRecDepth 100000 in
theorem txt_step {n0 B bb R : Nat} {w V2 W : World} {ad : Option Addr} {k cap : Nat} {L : List Nat} {g t x : Nat} (h : TxtW n0 B bb R w V2 (.slice ad k cap) L g t W) (hL : 0 < L.length) (hLl : L.length ≤ 1000000) (hn0 : n0 ≤ W.heap.size) (hB : n0 ≤ B) (hne : B ≠ bb) (z : Int) (hz : z = (x : Nat)) (hx : (fourD g).take (t + 1) = (fourD g).take t ++ [x]) (ht : t ≤ 4) :
    ∃ g1 q1 c1 g2 q2 c2 W2, Boxed W B 48 (.slice (some ⟨g1, 0, none⟩) q1 c1) ∧ (Builtin.append_ #[48, 48] 48 #[.slice (some ⟨g1, 0, none⟩) q1 c1, .slice (some ⟨W.heap.size, 0, none⟩) 1 1]).run Tryz.prog (W.alloc (.cells #[.int .u8 z] 5)).drew = .ok (.slice (some ⟨g2, 0, none⟩) q2 c2) W2 ∧
      Boxed W2 B 48 (.slice (some ⟨g1, 0, none⟩) q1 c1) ∧ TxtW n0 B bb R w V2 (.slice ad k cap) L g (t + 1) (W2.setCell ⟨B, 0, none⟩ (.slice (some ⟨g2, 0, none⟩) q2 c2)) := by
  obtain ⟨⟨v, hbx, hown⟩, hbk, hb, hkf, hki⟩ := h
  have hlen : (L ++ (fourD g).take t).length ≤ 1000004 := by rw [List.length_append, List.length_take]; omega
  obtain ⟨q, hq⟩ : ∃ q, (L ++ (fourD g).take t).length = q := ⟨_, rfl⟩
  have hq0 : 0 < q := by rw [← hq, List.length_append]; omega
  obtain ⟨g1, c1, rfl, _, _, _, _, _⟩ := hown.form q hq hq0
  obtain ⟨Wa, hWa⟩ : ∃ Wa, (W.alloc (.cells #[.int .u8 z] 5)).drew = Wa := ⟨_, rfl⟩
  have ownA : Own8 Wa n0 (.slice (some ⟨g1, 0, none⟩) q c1) (L ++ (fourD g).take t) := by rw [← hWa]; exact (hown.alloc _).heq rfl
  have bA : Below n0 w Wa := by rw [← hWa]; exact below_same (hb.alloc hn0 _) rfl rfl rfl rfl
  have sA : n0 ≤ Wa.heap.size := by rw [← hWa]; show n0 ≤ (W.alloc _).heap.size; simp; omega
  have nA : NumsAt .u8 Wa W.heap.size 0 [x] := by rw [← hWa]; exact (new_num1 .u8 W z x hz _).heq rfl
  have bxA : Boxed Wa B 48 (.slice (some ⟨g1, 0, none⟩) q c1) := by rw [← hWa]; exact hbx.alloc _
  have bkA : Boxed Wa bb 88 (.slice ad k cap) := by rw [← hWa]; exact hbk.alloc _
  have kA : KeepsFrom R V2 Wa := by rw [← hWa]; exact hkf.trans (calls_keep (below_same ((Below.refl _ W).alloc (Nat.le_refl _) _) rfl rfl rfl rfl))
  have iA : ∀ i, (i < n0 ∨ i = bb) → Wa.heap[i]? = V2.heap[i]? := by
    rw [← hWa]
    intro i hi
    exact (Below.heap_alloc W _ i (by rcases hi with h | h; omega; rw [h]; exact hbk.lt)).trans (hki i hi)
  obtain ⟨v', W2, heq, own2, hb2, hgr⟩ := run_push8 Wa w n0 48 _ _ [x] ownA bA sA W.heap.size 0 1 1 rfl nA (by omega)
  obtain ⟨q2, hq2⟩ : ∃ q2, (L ++ (fourD g).take t ++ [x]).length = q2 := ⟨_, rfl⟩
  obtain ⟨g2, c2, rfl, _, _, _, _, _⟩ := own2.form q2 hq2 (by rw [← hq2, List.length_append]; simp)
  have e1 := bxA.not_row box_row_ne ownA
  have e2 := bkA.not_row nat_row_ne ownA
  have bx2 : Boxed W2 B 48 (.slice (some ⟨g1, 0, none⟩) q c1) := bxA.kept hgr e1
  have bk2 : Boxed W2 bb 88 (.slice ad k cap) := bkA.kept hgr e2
  refine ⟨g1, q, c1, g2, q2, c2, W2, hbx, by rw [hWa]; exact heq, bx2, ⟨_, bx2.set _, ?_⟩, bk2.other (Ne.symm hne) _, hb2.setCell (p := ⟨B, 0, none⟩) hB _, ?_, ?_⟩
  · have := own8_setBox own2 bx2 (.slice (some ⟨g2, 0, none⟩) q2 c2)
    rw [hx, ← List.append_assoc]
    exact this
  · refine kA.trans (KeepsFrom.trans ((KeepsOthers.of_grownBy hgr ?_).from _) ((KeepsOthers.setCell _ _ _).from _))
    rintro j o hj ho
    obtain ⟨_, ⟨_, h0⟩ | ⟨g', cap', cur, hv, _, hh, _⟩⟩ := ownA
    · omega
    · cases hv
      cases hj
      rw [hh] at ho
      cases ho
      rfl
  · intro i hi
    have hib : i ≠ B := by rcases hi with h | h; omega; rw [h]; exact Ne.symm hne
    refine (Below.heap_setCell _ _ _ _ hib).trans ?_
    rcases hi with h | h
    · rw [hb2.block i h]; exact (hb.block i h).symm.trans (hki i (.inl h))
    · rw [h]
      exact (bk2 : W2.heap[bb]? = _).trans ((bkA : Wa.heap[bb]? = _).symm.trans (iA bb (.inr rfl)))

set_option maxRecDepth 100000 in
set_option maxHeartbeats 8000000 in
theorem textM_in (n x : Nat) (hx0 : x ≠ 0) (ad : Option Addr) (cap m : Nat) (w : World) (h : NatAt w ad m cap x) (hm : m ≤ 1000) (hR : Ready w) :
    CallsIn Fence.wide n Tryz.prog 105 #[.slice ad m cap] w fun e w' => e = .returned (.string (byteL (textN x))) ∧ Below w.heap.size w w' := by
  obtain ⟨e1, H1⟩ := h
  have hg := grps_lt x
  have hc := grps_canonG x
  have hv := valG_grps x
  have hm0 : 0 < m := by rw [← e1, grps_pos hx0]; simp
  obtain ⟨l, hl⟩ : ∃ l, grps x = l := ⟨_, rfl⟩
  rw [hl] at H1 e1 hg hc hv
  obtain ⟨k, rfl⟩ : ∃ k, m = k + 1 := ⟨m - 1, by omega⟩
  obtain ⟨ga, oa, rfl, hga, hsa⟩ := H1.at (by omega)
  obtain ⟨top, htop⟩ : ∃ t, l.getD k 0 = t := ⟨_, rfl⟩
  have ctop := hsa k (by omega)
  rw [htop] at ctop
  have htl := getG_grp hg k
  rw [htop] at htl
  have hxt := text_top (l := l) (by omega)
  rw [e1, Nat.add_sub_cancel, htop] at hxt
  have hj := fun w => atN ga oa (k + 1) cap k (k : Int) rfl (by omega) w
  have hmk := fun W => make_bytes0 (4 * (k + 1)) (by omega) W (4 * ((k : Int) + 1)) (by omega)
  have hown := fun (W : World) (hW : w.heap.size ≤ W.heap.size) => own8_made W w.heap.size (4 * (k + 1)) hW (by omega)
  obtain ⟨Z, hZ⟩ : ∃ Z, numVals .u8 (List.replicate (4 * (k + 1)) 0) = Z := ⟨_, rfl⟩
  rw [hZ] at hmk hown
  have hap := fun (W : World) (g : Nat) (b : Below w.heap.size w W) (ho : Own8 W w.heap.size (.slice (some ⟨g, 0, none⟩) 0 (4 * (k + 1))) []) =>
    strconv_AppendInt_10 w.heap.size 0 (top : Int) (by omega) (by omega) (.slice (some ⟨g, 0, none⟩) 0 (4 * (k + 1))) [] W ho b.size (by omega) ((Lib.tabBelow_of_tabIs hR).on b)
  rw [itoa_cells, itoa_len, List.nil_append, Nat.zero_add] at hap
  have hcell : ∀ W, Below w.heap.size w W → W.cell? ⟨ga, oa + k, none⟩ = some (.int .i64 (top : Int)) := fun W b => (b.cell (p := ⟨ga, oa + k, none⟩) hga).trans ctop
  have HM := Lib.hid hmk; have HOWN := Lib.hid hown; have HAP := Lib.hid hap; have HC := Lib.hid hcell; have HXT := Lib.hid hxt
  have hz1 : (((k + 1 : Nat) : Int) == 0) = false := by rw [beq_eq_false_iff_ne]; omega
  have hw1 : IntKind.i64.wrap (4 * ((k : Int) + 1)) = 4 * ((k : Int) + 1) := IntWalk.i64_in _ (by omega)
  have hBa : Below w.heap.size w ((w.alloc (.cells #[.slice none 0 0] 48)).alloc (.cells Z.toArray 5)).drew := below_same (((Below.refl _ w).alloc (Nat.le_refl _) _).alloc (by simp) _) rfl rfl rfl rfl
  have hBb : Below w.heap.size w ((w.alloc (.cells Z.toArray 5)).alloc (.cells #[.slice none 0 0] 48)).drew := below_same (((Below.refl _ w).alloc (Nat.le_refl _) _).alloc (by simp) _) rfl rfl rfl rfl
  have hBc : Below w.heap.size w (w.alloc (.cells Z.toArray 5)).drew := below_same ((Below.refl _ w).alloc (Nat.le_refl _) _) rfl rfl rfl rfl
  have oa1 := hown (w.alloc (.cells #[.slice none 0 0] 48)) (by simp)
  rw [World.size_alloc] at oa1
  have oc1 := hown w (Nat.le_refl _)
  have ha := hap _ _ hBa (oa1.heq rfl)
  have hb := hap _ _ hBb ((oc1.alloc (.cells #[.slice none 0 0] 48)).heq rfl)
  have hcc := hap _ _ hBc (oc1.heq rfl)
  have xa : Boxed ((w.alloc (.cells #[.slice none 0 0] 48)).alloc (.cells Z.toArray 5)).drew w.heap.size 48 (.slice none 0 0) := (Boxed.new w _ _).alloc _
  have xb : Boxed ((w.alloc (.cells Z.toArray 5)).alloc (.cells #[.slice none 0 0] 48)).drew (w.heap.size + 1) 48 (.slice none 0 0) := by
    have := Boxed.new (w.alloc (.cells Z.toArray 5)) 48 (.slice none 0 0)
    rw [World.size_alloc] at this
    exact this
  have HA := Lib.hid ha; have HBB := Lib.hid hb; have HCC := Lib.hid hcc; have XA := Lib.hid xa; have XB := Lib.hid xb; have BA := Lib.hid hBa; have BB := Lib.hid hBb; have BC := Lib.hid hBc
  clear ha hb hcc xa xb hBa hBb hBc oa1 oc1
  obtain ⟨q5, hq5⟩ : ∃ q, (textN top).length = q := ⟨_, rfl⟩
  have hq0 : 0 < q5 := by rw [← hq5]; exact List.length_pos_iff.2 (textN_ne_nil top)
  have HQ5 := Lib.hid hq5
  clear hown hap hcell hxt hsa htop hl hZ hq5
  refine callsIn_of_wp_marks Tryz.func105 rfl trivial ?_ rfl
  simp only [Tryz.ntmps105, List.size_toArray, List.length_cons, List.length_nil, Nat.reduceAdd, Nat.reduceSub, Array.replicate_succ, Array.replicate_zero, List.push_toArray, List.append_toArray, List.nil_append, List.cons_append]
  gi_wp2_with fail
  refine code_cut2 (α := Nat × Nat × Value) (fun p => { tmps := #[.slice (some ⟨ga, oa, none⟩) (k + 1) cap, undef, .string { data := #[] }, .int .i64 (k : Int), .pointer (some ⟨p.2.1, 0, none⟩), undef, undef, undef, .slice (some ⟨ga, oa, none⟩) (k + 1) cap, .int .i64 ((k : Int) + 1), .bool false, .slice (some ⟨ga, oa, none⟩) (k + 1) cap, .int .i64 ((k : Int) + 1), .int .i64 (k : Int), .slice (some ⟨ga, oa, none⟩) (k + 1) cap, .int .i64 ((k : Int) + 1), .int .i64 (4 * ((k : Int) + 1)), .slice (some ⟨p.1, 0, none⟩) 0 (4 * (k + 1)), .slice (some ⟨ga, oa, none⟩) (k + 1) cap, .int .i64 (k : Int), .pointer (some ⟨ga, oa + k, none⟩), .int .i64 (top : Int), p.2.2, undef, undef, undef, undef, undef, undef, undef, undef, undef, undef, undef, undef, undef, undef, undef, undef, undef, undef, undef, undef, undef], defers := [] }) (fun p W => RowBox w.heap.size w (textN top) p.2.1 p.2.2 W) ?region ?post
  case region =>
    gi_region_with (first | (refine ⟨trivial, (fun h => by cases h), ?_⟩; gi_at_call 125; (with_reducible refine (callsIn_wide.2 HA.out).mono ?_); rintro e w5 ⟨v5, rfl, ho5', hb5', hk5⟩; have ho5 : Own8 w5 w.heap.size v5 (textN top) := ho5'; obtain ⟨g5, cap5, rfl, _, _, _, _, _⟩ := ho5.form q5 HQ5.out hq0; have x5 : Boxed w5 (w.heap.size) 48 (.slice none 0 0) := boxed_others XA.out hk5; have c5 := x5.cell; have f5 := x5.frozen; have hb5 : Below w.heap.size w w5 := BA.out.trans hb5') | (refine ⟨trivial, (fun h => by cases h), ?_⟩; gi_at_call 125; (with_reducible refine (callsIn_wide.2 HBB.out).mono ?_); rintro e w5 ⟨v5, rfl, ho5', hb5', hk5⟩; have ho5 : Own8 w5 w.heap.size v5 (textN top) := ho5'; obtain ⟨g5, cap5, rfl, _, _, _, _, _⟩ := ho5.form q5 HQ5.out hq0; have x5 : Boxed w5 (w.heap.size + 1) 48 (.slice none 0 0) := boxed_others XB.out hk5; have c5 := x5.cell; have f5 := x5.frozen; have hb5 : Below w.heap.size w w5 := BB.out.trans hb5') | (refine ⟨trivial, (fun h => by cases h), ?_⟩; gi_at_call 125; (with_reducible refine (callsIn_wide.2 HCC.out).mono ?_); rintro e w5 ⟨v5, rfl, ho5', hb5', hk5⟩; have ho5 : Own8 w5 w.heap.size v5 (textN top) := ho5'; obtain ⟨g5, cap5, rfl, _, _, _, _, _⟩ := ho5.form q5 HQ5.out hq0; have hb5 : Below w.heap.size w w5 := BC.out.trans hb5'))
    all_goals (first
      | exact ⟨(_, _, _), rfl, x5.set _, own8_setBox ho5 x5 _, hb5.setCell (p := ⟨_, 0, none⟩) (by simp) _, by simp⟩
      | exact ⟨(_, _, _), rfl, Boxed.new w5 _ _, ho5.alloc _, hb5.alloc hb5.size _, hb5.size⟩)
  case post =>
    rintro ⟨b17, B, v⟩ W ⟨bx, own, hb, hBn⟩
    dsimp only at bx own hBn ⊢
    have hbl : B < W.heap.size := bx.lt
    obtain ⟨W1, hW1⟩ : ∃ W1, W.alloc (.cells #[.slice (some ⟨ga, oa, none⟩) k cap] 88) = W1 := ⟨_, rfl⟩
    have hsz : W1.heap.size = W.heap.size + 1 := by rw [← hW1]; simp
    have hb1 : Below w.heap.size w W1 := by rw [← hW1]; exact hb.alloc hb.size _
    have bx1 : Boxed W1 B 48 v := by rw [← hW1]; exact bx.alloc _
    have own1 : Own8 W1 w.heap.size v (textN top) := by rw [← hW1]; exact own.alloc _
    have bk1 : Boxed W1 W.heap.size 88 (.slice (some ⟨ga, oa, none⟩) k cap) := by rw [← hW1]; exact Boxed.new W _ _
    have hsl := fun w' => sliceN_to (some ⟨ga, oa, none⟩) (k + 1) cap k (k : Int) rfl (by have := H1.1; omega) w'
    have hzs : (l.take k).length = k := by rw [List.length_take]; omega
    have hHz := H1.take k
    have hHz1 := hHz.below hb1 (Nat.le_refl _)
    rw [← HXT.out] at own1
    have HW1 := Lib.hid hW1; have HSZ := Lib.hid hsz; have HB1 := Lib.hid hb1; have BX1 := Lib.hid bx1; have OWN1 := Lib.hid own1; have BK1 := Lib.hid bk1; have HZ := Lib.hid hzs; have HHZ := Lib.hid hHz; have HHZ1 := Lib.hid hHz1; have HG := Lib.hid hg; have HCN := Lib.hid hc; have HV := Lib.hid hv; have HL := Lib.hid e1; have HWS := Lib.hid hb.size
    clear hW1 hsz hb1 bx1 own1 bk1 hzs hHz hHz1 H1 hg hc hv bx own hb hmk HM HOWN HAP HC HA HBB HCC XA XB BA BB BC e1
    gi_wp2_with (refine ⟨trivial, (fun h => by cases h), ?_⟩; gi_at_call 122; refine (callsIn_wide.2 (backN_any _ _ _ _)).mono ?_; rintro e w' ⟨rfl, rfl⟩)
    rw [HW1.out]
    refine rangeFunc_nat (gf := 139) (lb := #[.pointer (some ⟨W.heap.size, 0, none⟩)]) rfl (enters_of Tryz.func139 (by kernel_rfl) rfl)
      k (fun j => #[Value.int .i64 ((k - 1 - j : Nat) : Int), Value.int .i64 (((l.take k).getD (k - 1 - j) 0 : Nat) : Int)]) (fun _ => rfl) (fun j => j < w.heap.size ∨ j = W.heap.size) (fun j hj => by have := HSZ.out; have := HWS.out; omega)
      ?seq (fun j W' => ((∃ v, Boxed W' B 48 v ∧ Own8 W' w.heap.size v (textN (valG (l.drop (k - j))))) ∧ Boxed W' W.heap.size 88 (.slice (some ⟨ga, oa, none⟩) k cap)) ∧ Below w.heap.size w W')
      (fun _ _ => False) ?own (fun _ _ _ _ h _ _ => h) ⟨⟨⟨v, BX1.out, OWN1.out⟩, BK1.out⟩, HB1.out⟩ ?round ?done (fun _ _ h _ => h.elim)
    case seq =>
      intro l' J Jx W' hY hJ hold
      refine backN1_in (n - 1) l' W.heap.size k cap (by omega) (l.take k) HZ.out (some ⟨ga, oa, none⟩) _ (.inr rfl) ?_ J Jx hY W' ((World.cell?_of_block (hold W.heap.size (by have := HSZ.out; omega))).trans BK1.out.cell) ?_ hJ
      · rintro h0 g o e
        cases e
        exact .inl hga
      · exact HHZ1.out.same hold
    case own =>
      refine OwnFrom.and (OwnFrom.and (Own.from ?_ _) ((boxed_own _ _ _).from _)) (ownFrom_below (Nat.le_refl _) (by have := HSZ.out; have := HWS.out; omega))
      rintro s X Y row ⟨v, hbx, hown⟩ hg hr
      refine ⟨v, hbx.kept hg (fun e => by obtain ⟨o, ho, hc⟩ := hr B e.symm; rw [show X.heap[B]? = _ from hbx] at ho; cases ho; cases hc), hown.1, hown.2.imp id ?_⟩
      rintro ⟨g, cp, cur, hv, hbg, hh, r⟩
      exact ⟨g, cp, cur, hv, hbg, (hg.block g (Array.getElem?_eq_some_iff.1 hh).1 (fun e => by obtain ⟨o, ho, hc⟩ := hr g e.symm; rw [hh] at ho; cases ho; cases hc)).trans hh, r⟩
    case round =>
      rintro l' j V V2 hj ⟨⟨⟨v, bxv, ownv⟩, bkv⟩, hbv⟩
      gi_wp2
      refine ⟨trivial, ?_⟩
      obtain ⟨m', hm'⟩ : ∃ m', k - 1 - j = m' := ⟨_, rfl⟩
      have hk1 : k - j = m' + 1 := by omega
      have hk2 : k - (j + 1) = m' := by omega
      have hml : m' < k := by omega
      rw [hm']
      rw [hk1] at ownv
      obtain ⟨g, hgd⟩ : ∃ g, l.getD m' 0 = g := ⟨_, rfl⟩
      rw [show (l.take k)[m']?.getD 0 = g by rw [List.getElem?_take_of_lt hml, ← List.getD_eq_getElem?_getD]; exact hgd]
      have hts := text_step HG.out HCN.out m' (by rw [HL.out]; omega)
      have hg4 := getG_grp HG.out m'
      rw [hgd] at hts hg4
      obtain ⟨L, hLd⟩ : ∃ L, textN (valG (l.drop (m' + 1))) = L := ⟨_, rfl⟩
      rw [hLd] at hts ownv
      have hL0 : 0 < L.length := by rw [← hLd]; exact List.length_pos_iff.2 (textN_ne_nil _)
      have hLl : L.length ≤ 1000000 := by
        have h1 := valG_lt (isGrp_drop HG.out (m' + 1))
        have h2 := textN_len_le h1
        rw [List.length_drop, HL.out, hLd] at h2
        omega
      have hst : TxtW w.heap.size B W.heap.size W1.heap.size w V2 (.slice (some ⟨ga, oa, none⟩) k cap) L g 0 V2 := ⟨⟨v, bxv, by rw [List.take_zero, List.append_nil]; exact ownv⟩, bkv, hbv, KeepsFrom.refl _ _, fun _ _ => rfl⟩
      have HST := Lib.hid hst; have HTS := Lib.hid hts
      clear hst hts bxv ownv bkv hbv hgd hLd hm'
      gi_wp2
      gi_loopw [7] (fun u wr => ∃ t : Nat, t ≤ 4 ∧ u = .int .i64 ((unitN t : Nat) : Int) ∧ Hid (TxtW w.heap.size B W.heap.size W1.heap.size w V2 (.slice (some ⟨ga, oa, none⟩) k cap) L g t wr)) (fun u _ => (RowKit.intOf u).toNat)
      case atStart => exact ⟨0, by omega, rfl, HST.out⟩
      case round =>
        obtain ⟨t, ht, rfl, htw⟩ := hrel
        by_cases ht4 : t < 4
        · obtain ⟨hu0, hu1, hu2, hu3⟩ := unit_step g t ht4
          obtain ⟨u, hu⟩ : ∃ u, unitN t = u := ⟨_, rfl⟩
          rw [hu] at hu0 hu1 hu2 hu3 ⊢
          obtain ⟨gu, hgu⟩ : ∃ q, g / u = q := ⟨_, rfl⟩
          obtain ⟨r, hr⟩ : ∃ q, gu % 10 = q := ⟨_, rfl⟩
          rw [hgu, hr] at hu3
          have hgul : gu < 10000 := by rw [← hgu]; exact Nat.lt_of_le_of_lt (Nat.div_le_self _ _) hg4
          have hr10 : r < 10 := by omega
          obtain ⟨g1, q1, c1, g2, q2, c2, W3, k1, k2, k3, k4⟩ := txt_step htw.out hL0 hLl htw.out.2.2.1.size hBn (by omega) (48 + (r : Int)) (by omega) hu3 (by omega)
          have d1 := k1.cell
          have d1b := (k1.alloc (.cells #[.int .u8 (48 + (r : Int))] 5)).cell
          have d2 := k3.cell
          have d3 := k3.frozen
          have hq1 : Int.tdiv (g : Int) (u : Int) = (gu : Int) := by rw [Int.tdiv_eq_ediv_of_nonneg (by omega), ← hgu]; simp
          have hq2 : Int.tmod (gu : Int) 10 = (r : Int) := by rw [Int.tmod_eq_emod_of_nonneg (by omega)]; omega
          have hw1 : IntKind.i64.wrap (gu : Int) = (gu : Int) := IntWalk.i64_in _ (by omega)
          have hw2 : IntKind.i64.wrap (r : Int) = (r : Int) := IntWalk.i64_in _ (by omega)
          have hw3 : IntKind.u8.wrap (r : Int) = (r : Int) := by rw [IntKind.wrap_u8]; omega
          have hw4 : IntKind.u8.wrap (48 + (r : Int)) = 48 + (r : Int) := by rw [IntKind.wrap_u8]; omega
          have hup : (0 : Int) < (u : Int) := by omega
          have hune : (u : Int) ≠ 0 := by omega
          have hune2 : u ≠ 0 := by omega
          have hq3 : (u : Int) / 10 = ((unitN (t + 1) : Nat) : Int) := by rw [hu2]; omega
          have HK4 := Lib.hid k4; have HQ3 := Lib.hid hq3; have HU2 := Lib.hid hu2
          have K2 := Lib.hid k2
          clear k1 k2 k3 k4 htw hu hgu hr hu3 hq3 hu2
          gi_wp2_with fail
          refine wpIn_region_any (by kernel_rfl) ?_
          change wpAnyIn _ _ _ _ _ _ _ _ _ (World.drew _)
          refine wpAnyIn_ready (rs := [0, 1, 2]) (by kernel_rfl) (by simp) ?_
          refine AllReadyIn.cons rfl (fun K hK => ?_) ?_
          · go_simp
            refine hK _ _ ?_
            clear hK K
            refine wpAnyIn_ready (rs := [1, 2]) (by kernel_rfl) (by simp) ?_
            refine AllReadyIn.cons rfl (fun K hK => ?_) ?_
            · go_simp
              refine hK _ _ ?_
              clear hK K
              refine wpAnyIn_ready (rs := [2]) (by kernel_rfl) (by simp) ?_
              refine AllReadyIn.cons rfl (fun K hK => ?_) ?_
              · go_simp
                refine hK _ _ ?_
                clear hK K
                refine wpAnyIn_ready (rs := [3]) (by kernel_rfl) (by simp) ?_
                refine AllReadyIn.cons rfl (fun K hK => ?_) ?_
                · go_simp
                  refine hK _ _ ?_
                  clear hK K
                  refine wpAnyIn_ready (rs := [4]) (by kernel_rfl) (by simp) ?_
                  refine AllReadyIn.cons rfl (fun K hK => ?_) ?_
                  · go_simp
                    refine hK _ _ ?_
                    clear hK K
                    refine wpAnyIn_ready (rs := [5]) (by kernel_rfl) (by simp) ?_
                    refine AllReadyIn.cons rfl (fun K hK => ?_) ?_
                    · go_simp
                      refine hK _ _ ?_
                      clear hK K
                      refine wpAnyIn_ready (rs := [6]) (by kernel_rfl) (by simp) ?_
                      refine AllReadyIn.cons rfl (fun K hK => ?_) ?_
                      · go_simp
                        refine hK _ _ ?_
                        clear hK K
                        refine wpAnyIn_ready (rs := [7]) (by kernel_rfl) (by simp) ?_
                        refine AllReadyIn.cons rfl (fun K hK => ?_) ?_
                        · go_simp
                          refine hK _ _ ?_
                          clear hK K
                          refine wpAnyIn_ready (rs := [8]) (by kernel_rfl) (by simp) ?_
                          refine AllReadyIn.cons rfl (fun K hK => ?_) ?_
                          · refine step_appendIn rfl (.tmp 33) (.tmp 40) 48 rfl rfl _ _ rfl rfl _ _ K2.out ?_
                            try go_simp
                            refine hK _ _ ?_
                            clear hK K
                            refine wpAnyIn_ready (rs := [9]) (by kernel_rfl) (by simp) ?_
                            refine AllReadyIn.cons rfl (fun K hK => ?_) ?_
                            · go_simp
                              refine hK _ _ ?_
                              clear hK K
                              refine wpAnyIn_done (by kernel_rfl) ?_ _
                              gi_wp2
                              go_roundw
                              case rel => exact ⟨t + 1, by omega, congrArg (Value.int .i64) HQ3.out, HK4.out⟩
                              case measure => simp [RowKit.intOf]; omega
                            exact AllReadyIn.nil
                          exact AllReadyIn.nil
                        exact AllReadyIn.nil
                      exact AllReadyIn.nil
                    exact AllReadyIn.nil
                  exact AllReadyIn.nil
                exact AllReadyIn.nil
              exact AllReadyIn.nil
            refine AllReadyIn.cons rfl (fun K hK => ?_) ?_
            · go_simp
              refine hK _ _ ?_
              clear hK K
              refine wpAnyIn_ready (rs := [1]) (by kernel_rfl) (by simp) ?_
              refine AllReadyIn.cons rfl (fun K hK => ?_) ?_
              · go_simp
                refine hK _ _ ?_
                clear hK K
                refine wpAnyIn_ready (rs := [3]) (by kernel_rfl) (by simp) ?_
                refine AllReadyIn.cons rfl (fun K hK => ?_) ?_
                · go_simp
                  refine hK _ _ ?_
                  clear hK K
                  refine wpAnyIn_ready (rs := [4]) (by kernel_rfl) (by simp) ?_
                  refine AllReadyIn.cons rfl (fun K hK => ?_) ?_
                  · go_simp
                    refine hK _ _ ?_
                    clear hK K
                    refine wpAnyIn_ready (rs := [5]) (by kernel_rfl) (by simp) ?_
                    refine AllReadyIn.cons rfl (fun K hK => ?_) ?_
                    · go_simp
                      refine hK _ _ ?_
                      clear hK K
                      refine wpAnyIn_ready (rs := [6]) (by kernel_rfl) (by simp) ?_
                      refine AllReadyIn.cons rfl (fun K hK => ?_) ?_
                      · go_simp
                        refine hK _ _ ?_
                        clear hK K
                        refine wpAnyIn_ready (rs := [7]) (by kernel_rfl) (by simp) ?_
                        refine AllReadyIn.cons rfl (fun K hK => ?_) ?_
                        · go_simp
                          refine hK _ _ ?_
                          clear hK K
                          refine wpAnyIn_ready (rs := [8]) (by kernel_rfl) (by simp) ?_
                          refine AllReadyIn.cons rfl (fun K hK => ?_) ?_
                          · refine step_appendIn rfl (.tmp 33) (.tmp 40) 48 rfl rfl _ _ rfl rfl _ _ K2.out ?_
                            try go_simp
                            refine hK _ _ ?_
                            clear hK K
                            refine wpAnyIn_ready (rs := [9]) (by kernel_rfl) (by simp) ?_
                            refine AllReadyIn.cons rfl (fun K hK => ?_) ?_
                            · go_simp
                              refine hK _ _ ?_
                              clear hK K
                              refine wpAnyIn_done (by kernel_rfl) ?_ _
                              gi_wp2
                              go_roundw
                              case rel => exact ⟨t + 1, by omega, congrArg (Value.int .i64) HQ3.out, HK4.out⟩
                              case measure => simp [RowKit.intOf]; omega
                            exact AllReadyIn.nil
                          exact AllReadyIn.nil
                        exact AllReadyIn.nil
                      exact AllReadyIn.nil
                    exact AllReadyIn.nil
                  exact AllReadyIn.nil
                exact AllReadyIn.nil
              exact AllReadyIn.nil
            exact AllReadyIn.nil
          refine AllReadyIn.cons rfl (fun K hK => ?_) ?_
          · go_simp
            refine hK _ _ ?_
            clear hK K
            refine wpAnyIn_ready (rs := [0, 2]) (by kernel_rfl) (by simp) ?_
            refine AllReadyIn.cons rfl (fun K hK => ?_) ?_
            · go_simp
              refine hK _ _ ?_
              clear hK K
              refine wpAnyIn_ready (rs := [2]) (by kernel_rfl) (by simp) ?_
              refine AllReadyIn.cons rfl (fun K hK => ?_) ?_
              · go_simp
                refine hK _ _ ?_
                clear hK K
                refine wpAnyIn_ready (rs := [3]) (by kernel_rfl) (by simp) ?_
                refine AllReadyIn.cons rfl (fun K hK => ?_) ?_
                · go_simp
                  refine hK _ _ ?_
                  clear hK K
                  refine wpAnyIn_ready (rs := [4]) (by kernel_rfl) (by simp) ?_
                  refine AllReadyIn.cons rfl (fun K hK => ?_) ?_
                  · go_simp
                    refine hK _ _ ?_
                    clear hK K
                    refine wpAnyIn_ready (rs := [5]) (by kernel_rfl) (by simp) ?_
                    refine AllReadyIn.cons rfl (fun K hK => ?_) ?_
                    · go_simp
                      refine hK _ _ ?_
                      clear hK K
                      refine wpAnyIn_ready (rs := [6]) (by kernel_rfl) (by simp) ?_
                      refine AllReadyIn.cons rfl (fun K hK => ?_) ?_
                      · go_simp
                        refine hK _ _ ?_
                        clear hK K
                        refine wpAnyIn_ready (rs := [7]) (by kernel_rfl) (by simp) ?_
                        refine AllReadyIn.cons rfl (fun K hK => ?_) ?_
                        · go_simp
                          refine hK _ _ ?_
                          clear hK K
                          refine wpAnyIn_ready (rs := [8]) (by kernel_rfl) (by simp) ?_
                          refine AllReadyIn.cons rfl (fun K hK => ?_) ?_
                          · refine step_appendIn rfl (.tmp 33) (.tmp 40) 48 rfl rfl _ _ rfl rfl _ _ K2.out ?_
                            try go_simp
                            refine hK _ _ ?_
                            clear hK K
                            refine wpAnyIn_ready (rs := [9]) (by kernel_rfl) (by simp) ?_
                            refine AllReadyIn.cons rfl (fun K hK => ?_) ?_
                            · go_simp
                              refine hK _ _ ?_
                              clear hK K
                              refine wpAnyIn_done (by kernel_rfl) ?_ _
                              gi_wp2
                              go_roundw
                              case rel => exact ⟨t + 1, by omega, congrArg (Value.int .i64) HQ3.out, HK4.out⟩
                              case measure => simp [RowKit.intOf]; omega
                            exact AllReadyIn.nil
                          exact AllReadyIn.nil
                        exact AllReadyIn.nil
                      exact AllReadyIn.nil
                    exact AllReadyIn.nil
                  exact AllReadyIn.nil
                exact AllReadyIn.nil
              exact AllReadyIn.nil
            refine AllReadyIn.cons rfl (fun K hK => ?_) ?_
            · go_simp
              refine hK _ _ ?_
              clear hK K
              refine wpAnyIn_ready (rs := [0, 3]) (by kernel_rfl) (by simp) ?_
              refine AllReadyIn.cons rfl (fun K hK => ?_) ?_
              · go_simp
                refine hK _ _ ?_
                clear hK K
                refine wpAnyIn_ready (rs := [3]) (by kernel_rfl) (by simp) ?_
                refine AllReadyIn.cons rfl (fun K hK => ?_) ?_
                · go_simp
                  refine hK _ _ ?_
                  clear hK K
                  refine wpAnyIn_ready (rs := [4]) (by kernel_rfl) (by simp) ?_
                  refine AllReadyIn.cons rfl (fun K hK => ?_) ?_
                  · go_simp
                    refine hK _ _ ?_
                    clear hK K
                    refine wpAnyIn_ready (rs := [5]) (by kernel_rfl) (by simp) ?_
                    refine AllReadyIn.cons rfl (fun K hK => ?_) ?_
                    · go_simp
                      refine hK _ _ ?_
                      clear hK K
                      refine wpAnyIn_ready (rs := [6]) (by kernel_rfl) (by simp) ?_
                      refine AllReadyIn.cons rfl (fun K hK => ?_) ?_
                      · go_simp
                        refine hK _ _ ?_
                        clear hK K
                        refine wpAnyIn_ready (rs := [7]) (by kernel_rfl) (by simp) ?_
                        refine AllReadyIn.cons rfl (fun K hK => ?_) ?_
                        · go_simp
                          refine hK _ _ ?_
                          clear hK K
                          refine wpAnyIn_ready (rs := [8]) (by kernel_rfl) (by simp) ?_
                          refine AllReadyIn.cons rfl (fun K hK => ?_) ?_
                          · refine step_appendIn rfl (.tmp 33) (.tmp 40) 48 rfl rfl _ _ rfl rfl _ _ K2.out ?_
                            try go_simp
                            refine hK _ _ ?_
                            clear hK K
                            refine wpAnyIn_ready (rs := [9]) (by kernel_rfl) (by simp) ?_
                            refine AllReadyIn.cons rfl (fun K hK => ?_) ?_
                            · go_simp
                              refine hK _ _ ?_
                              clear hK K
                              refine wpAnyIn_done (by kernel_rfl) ?_ _
                              gi_wp2
                              go_roundw
                              case rel => exact ⟨t + 1, by omega, congrArg (Value.int .i64) HQ3.out, HK4.out⟩
                              case measure => simp [RowKit.intOf]; omega
                            exact AllReadyIn.nil
                          exact AllReadyIn.nil
                        exact AllReadyIn.nil
                      exact AllReadyIn.nil
                    exact AllReadyIn.nil
                  exact AllReadyIn.nil
                exact AllReadyIn.nil
              refine AllReadyIn.cons rfl (fun K hK => ?_) ?_
              · go_simp
                refine hK _ _ ?_
                clear hK K
                refine wpAnyIn_ready (rs := [0, 4]) (by kernel_rfl) (by simp) ?_
                refine AllReadyIn.cons rfl (fun K hK => ?_) ?_
                · go_simp
                  refine hK _ _ ?_
                  clear hK K
                  refine wpAnyIn_ready (rs := [4]) (by kernel_rfl) (by simp) ?_
                  refine AllReadyIn.cons rfl (fun K hK => ?_) ?_
                  · go_simp
                    refine hK _ _ ?_
                    clear hK K
                    refine wpAnyIn_ready (rs := [5]) (by kernel_rfl) (by simp) ?_
                    refine AllReadyIn.cons rfl (fun K hK => ?_) ?_
                    · go_simp
                      refine hK _ _ ?_
                      clear hK K
                      refine wpAnyIn_ready (rs := [6]) (by kernel_rfl) (by simp) ?_
                      refine AllReadyIn.cons rfl (fun K hK => ?_) ?_
                      · go_simp
                        refine hK _ _ ?_
                        clear hK K
                        refine wpAnyIn_ready (rs := [7]) (by kernel_rfl) (by simp) ?_
                        refine AllReadyIn.cons rfl (fun K hK => ?_) ?_
                        · go_simp
                          refine hK _ _ ?_
                          clear hK K
                          refine wpAnyIn_ready (rs := [8]) (by kernel_rfl) (by simp) ?_
                          refine AllReadyIn.cons rfl (fun K hK => ?_) ?_
                          · refine step_appendIn rfl (.tmp 33) (.tmp 40) 48 rfl rfl _ _ rfl rfl _ _ K2.out ?_
                            try go_simp
                            refine hK _ _ ?_
                            clear hK K
                            refine wpAnyIn_ready (rs := [9]) (by kernel_rfl) (by simp) ?_
                            refine AllReadyIn.cons rfl (fun K hK => ?_) ?_
                            · go_simp
                              refine hK _ _ ?_
                              clear hK K
                              refine wpAnyIn_done (by kernel_rfl) ?_ _
                              gi_wp2
                              go_roundw
                              case rel => exact ⟨t + 1, by omega, congrArg (Value.int .i64) HQ3.out, HK4.out⟩
                              case measure => simp [RowKit.intOf]; omega
                            exact AllReadyIn.nil
                          exact AllReadyIn.nil
                        exact AllReadyIn.nil
                      exact AllReadyIn.nil
                    exact AllReadyIn.nil
                  exact AllReadyIn.nil
                refine AllReadyIn.cons rfl (fun K hK => ?_) ?_
                · go_simp
                  refine hK _ _ ?_
                  clear hK K
                  refine wpAnyIn_ready (rs := [0, 5]) (by kernel_rfl) (by simp) ?_
                  refine AllReadyIn.cons rfl (fun K hK => ?_) ?_
                  · go_simp
                    refine hK _ _ ?_
                    clear hK K
                    refine wpAnyIn_ready (rs := [5]) (by kernel_rfl) (by simp) ?_
                    refine AllReadyIn.cons rfl (fun K hK => ?_) ?_
                    · go_simp
                      refine hK _ _ ?_
                      clear hK K
                      refine wpAnyIn_ready (rs := [6]) (by kernel_rfl) (by simp) ?_
                      refine AllReadyIn.cons rfl (fun K hK => ?_) ?_
                      · go_simp
                        refine hK _ _ ?_
                        clear hK K
                        refine wpAnyIn_ready (rs := [7]) (by kernel_rfl) (by simp) ?_
                        refine AllReadyIn.cons rfl (fun K hK => ?_) ?_
                        · go_simp
                          refine hK _ _ ?_
                          clear hK K
                          refine wpAnyIn_ready (rs := [8]) (by kernel_rfl) (by simp) ?_
                          refine AllReadyIn.cons rfl (fun K hK => ?_) ?_
                          · refine step_appendIn rfl (.tmp 33) (.tmp 40) 48 rfl rfl _ _ rfl rfl _ _ K2.out ?_
                            try go_simp
                            refine hK _ _ ?_
                            clear hK K
                            refine wpAnyIn_ready (rs := [9]) (by kernel_rfl) (by simp) ?_
                            refine AllReadyIn.cons rfl (fun K hK => ?_) ?_
                            · go_simp
                              refine hK _ _ ?_
                              clear hK K
                              refine wpAnyIn_done (by kernel_rfl) ?_ _
                              gi_wp2
                              go_roundw
                              case rel => exact ⟨t + 1, by omega, congrArg (Value.int .i64) HQ3.out, HK4.out⟩
                              case measure => simp [RowKit.intOf]; omega
                            exact AllReadyIn.nil
                          exact AllReadyIn.nil
                        exact AllReadyIn.nil
                      exact AllReadyIn.nil
                    exact AllReadyIn.nil
                  refine AllReadyIn.cons rfl (fun K hK => ?_) ?_
                  · go_simp
                    refine hK _ _ ?_
                    clear hK K
                    refine wpAnyIn_ready (rs := [0, 6]) (by kernel_rfl) (by simp) ?_
                    refine AllReadyIn.cons rfl (fun K hK => ?_) ?_
                    · go_simp
                      refine hK _ _ ?_
                      clear hK K
                      refine wpAnyIn_ready (rs := [6]) (by kernel_rfl) (by simp) ?_
                      refine AllReadyIn.cons rfl (fun K hK => ?_) ?_
                      · go_simp
                        refine hK _ _ ?_
                        clear hK K
                        refine wpAnyIn_ready (rs := [7]) (by kernel_rfl) (by simp) ?_
                        refine AllReadyIn.cons rfl (fun K hK => ?_) ?_
                        · go_simp
                          refine hK _ _ ?_
                          clear hK K
                          refine wpAnyIn_ready (rs := [8]) (by kernel_rfl) (by simp) ?_
                          refine AllReadyIn.cons rfl (fun K hK => ?_) ?_
                          · refine step_appendIn rfl (.tmp 33) (.tmp 40) 48 rfl rfl _ _ rfl rfl _ _ K2.out ?_
                            try go_simp
                            refine hK _ _ ?_
                            clear hK K
                            refine wpAnyIn_ready (rs := [9]) (by kernel_rfl) (by simp) ?_
                            refine AllReadyIn.cons rfl (fun K hK => ?_) ?_
                            · go_simp
                              refine hK _ _ ?_
                              clear hK K
                              refine wpAnyIn_done (by kernel_rfl) ?_ _
                              gi_wp2
                              go_roundw
                              case rel => exact ⟨t + 1, by omega, congrArg (Value.int .i64) HQ3.out, HK4.out⟩
                              case measure => simp [RowKit.intOf]; omega
                            exact AllReadyIn.nil
                          exact AllReadyIn.nil
                        exact AllReadyIn.nil
                      exact AllReadyIn.nil
                    refine AllReadyIn.cons rfl (fun K hK => ?_) ?_
                    · go_simp
                      refine hK _ _ ?_
                      clear hK K
                      refine wpAnyIn_ready (rs := [0, 7]) (by kernel_rfl) (by simp) ?_
                      refine AllReadyIn.cons rfl (fun K hK => ?_) ?_
                      · go_simp
                        refine hK _ _ ?_
                        clear hK K
                        refine wpAnyIn_ready (rs := [7]) (by kernel_rfl) (by simp) ?_
                        refine AllReadyIn.cons rfl (fun K hK => ?_) ?_
                        · go_simp
                          refine hK _ _ ?_
                          clear hK K
                          refine wpAnyIn_ready (rs := [8]) (by kernel_rfl) (by simp) ?_
                          refine AllReadyIn.cons rfl (fun K hK => ?_) ?_
                          · refine step_appendIn rfl (.tmp 33) (.tmp 40) 48 rfl rfl _ _ rfl rfl _ _ K2.out ?_
                            try go_simp
                            refine hK _ _ ?_
                            clear hK K
                            refine wpAnyIn_ready (rs := [9]) (by kernel_rfl) (by simp) ?_
                            refine AllReadyIn.cons rfl (fun K hK => ?_) ?_
                            · go_simp
                              refine hK _ _ ?_
                              clear hK K
                              refine wpAnyIn_done (by kernel_rfl) ?_ _
                              gi_wp2
                              go_roundw
                              case rel => exact ⟨t + 1, by omega, congrArg (Value.int .i64) HQ3.out, HK4.out⟩
                              case measure => simp [RowKit.intOf]; omega
                            exact AllReadyIn.nil
                          exact AllReadyIn.nil
                        exact AllReadyIn.nil
                      refine AllReadyIn.cons rfl (fun K hK => ?_) ?_
                      · go_simp
                        refine hK _ _ ?_
                        clear hK K
                        refine wpAnyIn_ready (rs := [0]) (by kernel_rfl) (by simp) ?_
                        refine AllReadyIn.cons rfl (fun K hK => ?_) ?_
                        · go_simp
                          refine hK _ _ ?_
                          clear hK K
                          refine wpAnyIn_ready (rs := [8]) (by kernel_rfl) (by simp) ?_
                          refine AllReadyIn.cons rfl (fun K hK => ?_) ?_
                          · refine step_appendIn rfl (.tmp 33) (.tmp 40) 48 rfl rfl _ _ rfl rfl _ _ K2.out ?_
                            try go_simp
                            refine hK _ _ ?_
                            clear hK K
                            refine wpAnyIn_ready (rs := [9]) (by kernel_rfl) (by simp) ?_
                            refine AllReadyIn.cons rfl (fun K hK => ?_) ?_
                            · go_simp
                              refine hK _ _ ?_
                              clear hK K
                              refine wpAnyIn_done (by kernel_rfl) ?_ _
                              gi_wp2
                              go_roundw
                              case rel => exact ⟨t + 1, by omega, congrArg (Value.int .i64) HQ3.out, HK4.out⟩
                              case measure => simp [RowKit.intOf]; omega
                            exact AllReadyIn.nil
                          exact AllReadyIn.nil
                        exact AllReadyIn.nil
                      exact AllReadyIn.nil
                    exact AllReadyIn.nil
                  exact AllReadyIn.nil
                exact AllReadyIn.nil
              exact AllReadyIn.nil
            exact AllReadyIn.nil
          refine AllReadyIn.cons rfl (fun K hK => ?_) ?_
          · go_simp
            refine hK _ _ ?_
            clear hK K
            refine wpAnyIn_ready (rs := [0, 1]) (by kernel_rfl) (by simp) ?_
            refine AllReadyIn.cons rfl (fun K hK => ?_) ?_
            · go_simp
              refine hK _ _ ?_
              clear hK K
              refine wpAnyIn_ready (rs := [1]) (by kernel_rfl) (by simp) ?_
              refine AllReadyIn.cons rfl (fun K hK => ?_) ?_
              · go_simp
                refine hK _ _ ?_
                clear hK K
                refine wpAnyIn_ready (rs := [3]) (by kernel_rfl) (by simp) ?_
                refine AllReadyIn.cons rfl (fun K hK => ?_) ?_
                · go_simp
                  refine hK _ _ ?_
                  clear hK K
                  refine wpAnyIn_ready (rs := [4]) (by kernel_rfl) (by simp) ?_
                  refine AllReadyIn.cons rfl (fun K hK => ?_) ?_
                  · go_simp
                    refine hK _ _ ?_
                    clear hK K
                    refine wpAnyIn_ready (rs := [5]) (by kernel_rfl) (by simp) ?_
                    refine AllReadyIn.cons rfl (fun K hK => ?_) ?_
                    · go_simp
                      refine hK _ _ ?_
                      clear hK K
                      refine wpAnyIn_ready (rs := [6]) (by kernel_rfl) (by simp) ?_
                      refine AllReadyIn.cons rfl (fun K hK => ?_) ?_
                      · go_simp
                        refine hK _ _ ?_
                        clear hK K
                        refine wpAnyIn_ready (rs := [7]) (by kernel_rfl) (by simp) ?_
                        refine AllReadyIn.cons rfl (fun K hK => ?_) ?_
                        · go_simp
                          refine hK _ _ ?_
                          clear hK K
                          refine wpAnyIn_ready (rs := [8]) (by kernel_rfl) (by simp) ?_
                          refine AllReadyIn.cons rfl (fun K hK => ?_) ?_
                          · refine step_appendIn rfl (.tmp 33) (.tmp 40) 48 rfl rfl _ _ rfl rfl _ _ K2.out ?_
                            try go_simp
                            refine hK _ _ ?_
                            clear hK K
                            refine wpAnyIn_ready (rs := [9]) (by kernel_rfl) (by simp) ?_
                            refine AllReadyIn.cons rfl (fun K hK => ?_) ?_
                            · go_simp
                              refine hK _ _ ?_
                              clear hK K
                              refine wpAnyIn_done (by kernel_rfl) ?_ _
                              gi_wp2
                              go_roundw
                              case rel => exact ⟨t + 1, by omega, congrArg (Value.int .i64) HQ3.out, HK4.out⟩
                              case measure => simp [RowKit.intOf]; omega
                            exact AllReadyIn.nil
                          exact AllReadyIn.nil
                        exact AllReadyIn.nil
                      exact AllReadyIn.nil
                    exact AllReadyIn.nil
                  exact AllReadyIn.nil
                exact AllReadyIn.nil
              exact AllReadyIn.nil
            refine AllReadyIn.cons rfl (fun K hK => ?_) ?_
            · go_simp
              refine hK _ _ ?_
              clear hK K
              refine wpAnyIn_ready (rs := [0, 3]) (by kernel_rfl) (by simp) ?_
              refine AllReadyIn.cons rfl (fun K hK => ?_) ?_
              · go_simp
                refine hK _ _ ?_
                clear hK K
                refine wpAnyIn_ready (rs := [3]) (by kernel_rfl) (by simp) ?_
                refine AllReadyIn.cons rfl (fun K hK => ?_) ?_
                · go_simp
                  refine hK _ _ ?_
                  clear hK K
                  refine wpAnyIn_ready (rs := [4]) (by kernel_rfl) (by simp) ?_
                  refine AllReadyIn.cons rfl (fun K hK => ?_) ?_
                  · go_simp
                    refine hK _ _ ?_
                    clear hK K
                    refine wpAnyIn_ready (rs := [5]) (by kernel_rfl) (by simp) ?_
                    refine AllReadyIn.cons rfl (fun K hK => ?_) ?_
                    · go_simp
                      refine hK _ _ ?_
                      clear hK K
                      refine wpAnyIn_ready (rs := [6]) (by kernel_rfl) (by simp) ?_
                      refine AllReadyIn.cons rfl (fun K hK => ?_) ?_
                      · go_simp
                        refine hK _ _ ?_
                        clear hK K
                        refine wpAnyIn_ready (rs := [7]) (by kernel_rfl) (by simp) ?_
                        refine AllReadyIn.cons rfl (fun K hK => ?_) ?_
                        · go_simp
                          refine hK _ _ ?_
                          clear hK K
                          refine wpAnyIn_ready (rs := [8]) (by kernel_rfl) (by simp) ?_
                          refine AllReadyIn.cons rfl (fun K hK => ?_) ?_
                          · refine step_appendIn rfl (.tmp 33) (.tmp 40) 48 rfl rfl _ _ rfl rfl _ _ K2.out ?_
                            try go_simp
                            refine hK _ _ ?_
                            clear hK K
                            refine wpAnyIn_ready (rs := [9]) (by kernel_rfl) (by simp) ?_
                            refine AllReadyIn.cons rfl (fun K hK => ?_) ?_
                            · go_simp
                              refine hK _ _ ?_
                              clear hK K
                              refine wpAnyIn_done (by kernel_rfl) ?_ _
                              gi_wp2
                              go_roundw
                              case rel => exact ⟨t + 1, by omega, congrArg (Value.int .i64) HQ3.out, HK4.out⟩
                              case measure => simp [RowKit.intOf]; omega
                            exact AllReadyIn.nil
                          exact AllReadyIn.nil
                        exact AllReadyIn.nil
                      exact AllReadyIn.nil
                    exact AllReadyIn.nil
                  exact AllReadyIn.nil
                exact AllReadyIn.nil
              refine AllReadyIn.cons rfl (fun K hK => ?_) ?_
              · go_simp
                refine hK _ _ ?_
                clear hK K
                refine wpAnyIn_ready (rs := [0, 4]) (by kernel_rfl) (by simp) ?_
                refine AllReadyIn.cons rfl (fun K hK => ?_) ?_
                · go_simp
                  refine hK _ _ ?_
                  clear hK K
                  refine wpAnyIn_ready (rs := [4]) (by kernel_rfl) (by simp) ?_
                  refine AllReadyIn.cons rfl (fun K hK => ?_) ?_
                  · go_simp
                    refine hK _ _ ?_
                    clear hK K
                    refine wpAnyIn_ready (rs := [5]) (by kernel_rfl) (by simp) ?_
                    refine AllReadyIn.cons rfl (fun K hK => ?_) ?_
                    · go_simp
                      refine hK _ _ ?_
                      clear hK K
                      refine wpAnyIn_ready (rs := [6]) (by kernel_rfl) (by simp) ?_
                      refine AllReadyIn.cons rfl (fun K hK => ?_) ?_
                      · go_simp
                        refine hK _ _ ?_
                        clear hK K
                        refine wpAnyIn_ready (rs := [7]) (by kernel_rfl) (by simp) ?_
                        refine AllReadyIn.cons rfl (fun K hK => ?_) ?_
                        · go_simp
                          refine hK _ _ ?_
                          clear hK K
                          refine wpAnyIn_ready (rs := [8]) (by kernel_rfl) (by simp) ?_
                          refine AllReadyIn.cons rfl (fun K hK => ?_) ?_
                          · refine step_appendIn rfl (.tmp 33) (.tmp 40) 48 rfl rfl _ _ rfl rfl _ _ K2.out ?_
                            try go_simp
                            refine hK _ _ ?_
                            clear hK K
                            refine wpAnyIn_ready (rs := [9]) (by kernel_rfl) (by simp) ?_
                            refine AllReadyIn.cons rfl (fun K hK => ?_) ?_
                            · go_simp
                              refine hK _ _ ?_
                              clear hK K
                              refine wpAnyIn_done (by kernel_rfl) ?_ _
                              gi_wp2
                              go_roundw
                              case rel => exact ⟨t + 1, by omega, congrArg (Value.int .i64) HQ3.out, HK4.out⟩
                              case measure => simp [RowKit.intOf]; omega
                            exact AllReadyIn.nil
                          exact AllReadyIn.nil
                        exact AllReadyIn.nil
                      exact AllReadyIn.nil
                    exact AllReadyIn.nil
                  exact AllReadyIn.nil
                refine AllReadyIn.cons rfl (fun K hK => ?_) ?_
                · go_simp
                  refine hK _ _ ?_
                  clear hK K
                  refine wpAnyIn_ready (rs := [0, 5]) (by kernel_rfl) (by simp) ?_
                  refine AllReadyIn.cons rfl (fun K hK => ?_) ?_
                  · go_simp
                    refine hK _ _ ?_
                    clear hK K
                    refine wpAnyIn_ready (rs := [5]) (by kernel_rfl) (by simp) ?_
                    refine AllReadyIn.cons rfl (fun K hK => ?_) ?_
                    · go_simp
                      refine hK _ _ ?_
                      clear hK K
                      refine wpAnyIn_ready (rs := [6]) (by kernel_rfl) (by simp) ?_
                      refine AllReadyIn.cons rfl (fun K hK => ?_) ?_
                      · go_simp
                        refine hK _ _ ?_
                        clear hK K
                        refine wpAnyIn_ready (rs := [7]) (by kernel_rfl) (by simp) ?_
                        refine AllReadyIn.cons rfl (fun K hK => ?_) ?_
                        · go_simp
                          refine hK _ _ ?_
                          clear hK K
                          refine wpAnyIn_ready (rs := [8]) (by kernel_rfl) (by simp) ?_
                          refine AllReadyIn.cons rfl (fun K hK => ?_) ?_
                          · refine step_appendIn rfl (.tmp 33) (.tmp 40) 48 rfl rfl _ _ rfl rfl _ _ K2.out ?_
                            try go_simp
                            refine hK _ _ ?_
                            clear hK K
                            refine wpAnyIn_ready (rs := [9]) (by kernel_rfl) (by simp) ?_
                            refine AllReadyIn.cons rfl (fun K hK => ?_) ?_
                            · go_simp
                              refine hK _ _ ?_
                              clear hK K
                              refine wpAnyIn_done (by kernel_rfl) ?_ _
                              gi_wp2
                              go_roundw
                              case rel => exact ⟨t + 1, by omega, congrArg (Value.int .i64) HQ3.out, HK4.out⟩
                              case measure => simp [RowKit.intOf]; omega
                            exact AllReadyIn.nil
                          exact AllReadyIn.nil
                        exact AllReadyIn.nil
                      exact AllReadyIn.nil
                    exact AllReadyIn.nil
                  refine AllReadyIn.cons rfl (fun K hK => ?_) ?_
                  · go_simp
                    refine hK _ _ ?_
                    clear hK K
                    refine wpAnyIn_ready (rs := [0, 6]) (by kernel_rfl) (by simp) ?_
                    refine AllReadyIn.cons rfl (fun K hK => ?_) ?_
                    · go_simp
                      refine hK _ _ ?_
                      clear hK K
                      refine wpAnyIn_ready (rs := [6]) (by kernel_rfl) (by simp) ?_
                      refine AllReadyIn.cons rfl (fun K hK => ?_) ?_
                      · go_simp
                        refine hK _ _ ?_
                        clear hK K
                        refine wpAnyIn_ready (rs := [7]) (by kernel_rfl) (by simp) ?_
                        refine AllReadyIn.cons rfl (fun K hK => ?_) ?_
                        · go_simp
                          refine hK _ _ ?_
                          clear hK K
                          refine wpAnyIn_ready (rs := [8]) (by kernel_rfl) (by simp) ?_
                          refine AllReadyIn.cons rfl (fun K hK => ?_) ?_
                          · refine step_appendIn rfl (.tmp 33) (.tmp 40) 48 rfl rfl _ _ rfl rfl _ _ K2.out ?_
                            try go_simp
                            refine hK _ _ ?_
                            clear hK K
                            refine wpAnyIn_ready (rs := [9]) (by kernel_rfl) (by simp) ?_
                            refine AllReadyIn.cons rfl (fun K hK => ?_) ?_
                            · go_simp
                              refine hK _ _ ?_
                              clear hK K
                              refine wpAnyIn_done (by kernel_rfl) ?_ _
                              gi_wp2
                              go_roundw
                              case rel => exact ⟨t + 1, by omega, congrArg (Value.int .i64) HQ3.out, HK4.out⟩
                              case measure => simp [RowKit.intOf]; omega
                            exact AllReadyIn.nil
                          exact AllReadyIn.nil
                        exact AllReadyIn.nil
                      exact AllReadyIn.nil
                    refine AllReadyIn.cons rfl (fun K hK => ?_) ?_
                    · go_simp
                      refine hK _ _ ?_
                      clear hK K
                      refine wpAnyIn_ready (rs := [0, 7]) (by kernel_rfl) (by simp) ?_
                      refine AllReadyIn.cons rfl (fun K hK => ?_) ?_
                      · go_simp
                        refine hK _ _ ?_
                        clear hK K
                        refine wpAnyIn_ready (rs := [7]) (by kernel_rfl) (by simp) ?_
                        refine AllReadyIn.cons rfl (fun K hK => ?_) ?_
                        · go_simp
                          refine hK _ _ ?_
                          clear hK K
                          refine wpAnyIn_ready (rs := [8]) (by kernel_rfl) (by simp) ?_
                          refine AllReadyIn.cons rfl (fun K hK => ?_) ?_
                          · refine step_appendIn rfl (.tmp 33) (.tmp 40) 48 rfl rfl _ _ rfl rfl _ _ K2.out ?_
                            try go_simp
                            refine hK _ _ ?_
                            clear hK K
                            refine wpAnyIn_ready (rs := [9]) (by kernel_rfl) (by simp) ?_
                            refine AllReadyIn.cons rfl (fun K hK => ?_) ?_
                            · go_simp
                              refine hK _ _ ?_
                              clear hK K
                              refine wpAnyIn_done (by kernel_rfl) ?_ _
                              gi_wp2
                              go_roundw
                              case rel => exact ⟨t + 1, by omega, congrArg (Value.int .i64) HQ3.out, HK4.out⟩
                              case measure => simp [RowKit.intOf]; omega
                            exact AllReadyIn.nil
                          exact AllReadyIn.nil
                        exact AllReadyIn.nil
                      refine AllReadyIn.cons rfl (fun K hK => ?_) ?_
                      · go_simp
                        refine hK _ _ ?_
                        clear hK K
                        refine wpAnyIn_ready (rs := [0]) (by kernel_rfl) (by simp) ?_
                        refine AllReadyIn.cons rfl (fun K hK => ?_) ?_
                        · go_simp
                          refine hK _ _ ?_
                          clear hK K
                          refine wpAnyIn_ready (rs := [8]) (by kernel_rfl) (by simp) ?_
                          refine AllReadyIn.cons rfl (fun K hK => ?_) ?_
                          · refine step_appendIn rfl (.tmp 33) (.tmp 40) 48 rfl rfl _ _ rfl rfl _ _ K2.out ?_
                            try go_simp
                            refine hK _ _ ?_
                            clear hK K
                            refine wpAnyIn_ready (rs := [9]) (by kernel_rfl) (by simp) ?_
                            refine AllReadyIn.cons rfl (fun K hK => ?_) ?_
                            · go_simp
                              refine hK _ _ ?_
                              clear hK K
                              refine wpAnyIn_done (by kernel_rfl) ?_ _
                              gi_wp2
                              go_roundw
                              case rel => exact ⟨t + 1, by omega, congrArg (Value.int .i64) HQ3.out, HK4.out⟩
                              case measure => simp [RowKit.intOf]; omega
                            exact AllReadyIn.nil
                          exact AllReadyIn.nil
                        exact AllReadyIn.nil
                      exact AllReadyIn.nil
                    exact AllReadyIn.nil
                  exact AllReadyIn.nil
                exact AllReadyIn.nil
              exact AllReadyIn.nil
            exact AllReadyIn.nil
          exact AllReadyIn.nil
        · obtain rfl : t = 4 := by omega
          have hu : unitN 4 = 0 := rfl
          rw [hu]
          obtain ⟨⟨v, bxv, ownv⟩, bkv, hbv, hkf, hki⟩ := htw.out
          rw [show (fourD g).take 4 = fourD g from rfl, ← HTS.out] at ownv
          have OV := Lib.hid ownv; have BV := Lib.hid bxv; have KV := Lib.hid bkv; have HBV := Lib.hid hbv; have HKF := Lib.hid hkf; have HKI := Lib.hid hki
          clear ownv bxv bkv hbv hkf hki hu htw
          gi_wp2
          exact ⟨HKF.out, HKI.out, ⟨⟨v, BV.out, by rw [hk2]; exact OV.out⟩, KV.out⟩, HBV.out⟩
    case done =>
      rintro V ⟨⟨⟨v, bxv, ownv⟩, bkv⟩, hbv⟩ hD
      rw [Nat.sub_self, List.drop_zero, HV.out] at ownv
      have hne : 0 < (textN x).length := List.length_pos_iff.2 (textN_ne_nil x)
      obtain ⟨q, hq⟩ : ∃ q, (textN x).length = q := ⟨_, rfl⟩
      obtain ⟨g1, c1, rfl, _, _, _, hn, _⟩ := ownv.form q hq (by omega)
      have hconv := run_convert_whole (P := Tryz.prog) V 48 5 9 Tryz.underlying48 Tryz.underlying5 Tryz.underlying9 g1 0 (byteL (textN x)) (nums_bytes hn (textN_lt x)) c1
      rw [byteL_size, hq] at hconv
      have c0 := bxv.cell
      have HD2 := Lib.hid hD; have HBV := Lib.hid hbv
      clear hD hbv ownv bxv bkv hn hq hne
      dsimp only
      gi_wp2
      refine ⟨by simp, .inl ⟨_, _, rfl, run_takeDeferred HD2.out, ?_⟩⟩
      exact ⟨_, results_tmp rfl _ _ _, rfl, below_collected HBV.out (by have := HSZ.out; have := HWS.out; omega) HD2.out _⟩
end Go.Proofs.YtlcibnmcannapaaGreatDoor
