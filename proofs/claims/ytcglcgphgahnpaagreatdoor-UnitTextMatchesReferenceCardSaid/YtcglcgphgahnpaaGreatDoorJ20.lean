/-
  An append as one step of a drawn region, in whatever fence.   The contract of package integer's natural.text. The contract of package integer's natural.gcd. The contracts of package integer's numbers.   The contracts of package integer's numbers: products, sums, differences.   The contracts of package integer's numbers: text, order.   The contracts of package integer's numbers: quotients. The contracts of package integer: what combines two numbers.   The contracts of package integer.   The contracts of package integer: quotients and roots. Blocks of memory that a call lays, read as lists of values; the words of units, a variable of the package.
-/
import Derived.Test.YtcglcgphgahnpaaGreatDoorJ02
import Derived.Test.YtcglcgphgahnpaaGreatDoorJ13
import Derived.Test.YtcglcgphgahnpaaGreatDoorJ16
import Derived.Test.YtcglcgphgahnpaaGreatDoorJ19
set_option maxRecDepth 100000
set_option maxHeartbeats 16000000
namespace Go.Proofs.YtcglcgphgahnpaaGreatDoor
open Go Go.Proofs Go.RowKit Go.Lib
attribute [local go_sem] Oper.semAt_some
theorem step_appendIn {F : Fence} {n : Nat} {P : Program} {y : Nat → Option Bool} {o : Oper} {a : Act} {w : World} {K : Act → World → Prop} {Q : Exit → Act → World → Prop} {E : Prop}
 (hg : o.guard = none) (s x : Operand) (t : TypeId) (hop : o.op = Op.call { callee := Callee.builtin Builtin.append, args := #[s, x], argTypes := #[t, t] }) (ht : o.type = t)
 (u v : Value) (hs : a.eval s = u) (hx : a.eval x = v) (r : Value) (W' : World) (hrun : (Builtin.append_ #[t, t] t #[u, v]).run P w = .ok r W') (hK : K (a.put o.dst r) W') :
 if Region.wanted o y = true then Oper.wpIn F n P o a w K Q else E := by
 have hw : Region.wanted o y = true := by simp [Region.wanted, hg]
 rw [if_pos hw]
 unfold Oper.wpIn
 refine ⟨by simp [Oper.about, hop, resolve, Target.leads, Sem.run_pure], ?_⟩
 rw [Oper.semAt_eq _ _ _ (by intro c hc; rw [hop] at hc; cases hc)]
 simp [execOp, hop, ht, resolve, invoke, builtin, hs, hx, hrun, Result.andThen]
 exact hK
end Go.Proofs.YtcglcgphgahnpaaGreatDoor
namespace Go.Proofs.YtcglcgphgahnpaaGreatDoor
open Go Go.Proofs Go.RowKit Go.Lib
attribute [local go_sem] Oper.semAt_some
def Ready (w : World) : Prop := Lib.TabIs Tryz.prog w "internal/strconv.uint64pow10" .u64 Lib.pow10Tab
theorem Ready.below {w w' : World} (h : Ready w) (b : Below w.heap.size w w') : Ready w' := Lib.tabBelow_of_tabIs h w' b
def CutPost2 {α : Type} (A : α → Act) (I : α → World → Prop) : Exit → Act → World → Prop
 | .normal, a', w' => ∃ x, a' = A x ∧ I x w'
 | _, _, _ => False
theorem code_cut2 {α : Type} {F : Fence} {n : Nat} {P : Program} {c : Code} {Q : Exit → Act → World → Prop} {a : Act} {w : World} (A : α → Act) (I : α → World → Prop) (h : c.wpIn F n P (CutPost2 A I) a w) (hp : ∀ x w', I x w' → Q .normal (A x) w') : c.wpIn F n P Q a w :=
 wpIn_mono h (fun e a' w' h => by
  cases e with
  | normal => obtain ⟨x, h2, h3⟩ := h; subst h2; exact hp x w' h3
  | ret => exact h.elim
  | exit id => exact h.elim
  | goto t => exact h.elim
  | panic ch => exact h.elim
  | outgrown => exact h.elim)
theorem itoa_cells (g : Nat) : Lib.byteCells (Lib.itoa ((g : Nat) : Int)) = numVals .u8 (textN g) := by
 unfold Lib.byteCells numVals
 rw [← itoa_nat, List.map_map]
 rfl
theorem itoa_len (g : Nat) : (Lib.itoa ((g : Nat) : Int)).length = (textN g).length := by rw [← itoa_nat, List.length_map]
theorem own8_made (W : World) (base k : Nat) (hb : base ≤ W.heap.size) (hk : k ≤ 1000000) : Own8 (W.alloc (.cells (numVals .u8 (List.replicate k 0)).toArray 5)) base (.slice (some ⟨W.heap.size, 0, none⟩) 0 k) [] :=
 ⟨by simp [numVals], .inr ⟨W.heap.size, k, (numVals .u8 (List.replicate k 0)).toArray, rfl, hb, heap_alloc_new W _, Nat.zero_le _, by unfold maxLen; omega, by simp [numVals], by simp [numVals]⟩⟩
theorem made_zeros8 (n : Nat) : madeCells (Value.int .u8 0).cells (n * 1) = (numVals .u8 (List.replicate n 0)).toArray := by
 apply Array.ext
 · rw [size_madeCells]; simp [numVals]
 intro i h1 h2
 simp [madeCells, numVals, Value.cells, Nat.mod_one]
theorem make_bytes0 (n : Nat) (hn : n ≤ 1000000) (W : World) (z : Int) (hz : z = (n : Nat)) :
 (Instr.makeSlice 44 (.int .i64 0) (.int .i64 z)).run Tryz.prog W = .ok (.slice (some ⟨W.heap.size, 0, none⟩) 0 n) (W.alloc (.cells (numVals .u8 (List.replicate n 0)).toArray 5)) := by
 subst hz
 obtain ⟨i0, hi, hz0, hz1, hz2⟩ := info_parts info_u8
 have h := run_make (P := Tryz.prog) W 44 5 i0 (.int .u8 0) Tryz.underlying44 hi hz0 .i64 .i64 (0 : Int) (n : Int) (by omega) (by omega) (by rw [hz2]; omega) (by omega)
 rw [hz1, Int.toNat_natCast, made_zeros8] at h
 exact h
def RowBox (n0 : Nat) (w : World) (L : List Nat) (B : Nat) (v : Value) (W : World) : Prop := Boxed W B 44 v ∧ Own8 W n0 v L ∧ Below n0 w W ∧ n0 ≤ B
theorem box_row_ne : (44 : TypeId) ≠ 5 := by decide
theorem own8_setBox {W : World} {base B : Nat} {v u : Value} {L : List Nat} (h : Own8 W base v L) (hb : Boxed W B 44 u) (x : Value) : Own8 (W.setCell ⟨B, 0, none⟩ x) base v L := by
 have hne := hb.not_row box_row_ne h
 refine ⟨h.1, h.2.imp id ?_⟩
 rintro ⟨g, cap, cur, rfl, hbg, hh, r⟩
 refine ⟨g, cap, cur, rfl, hbg, ?_, r⟩
 exact (Below.heap_setCell W ⟨B, 0, none⟩ x g (by intro e; exact hne (by subst e; rfl))).trans hh
theorem boxed_others {W W' : World} {B : Nat} {u : Value} (hb : Boxed W B 44 u) (hk : Lib.OthersKept 5 none W W') : Boxed W' B 44 u :=
 hk B _ hb (by simp) (fun c fz e => by cases e)
theorem textN_len_le {n c : Nat} (h : n < 10000 ^ c) : (textN n).length ≤ 4 * c + 1 := by
 unfold textN
 split
 · simp
 have h2 := digs_length_le (4 * c) n (by rw [pow4]; exact h)
 simp
 omega
def unitN : Nat → Nat
 | 0 => 1000
 | 1 => 100
 | 2 => 10
 | 3 => 1
 | _ => 0
theorem unit_step (g t : Nat) (ht : t < 4) : 0 < unitN t ∧ unitN t ≤ 1000 ∧ unitN (t + 1) = unitN t / 10 ∧ (fourD g).take (t + 1) = (fourD g).take t ++ [48 + g / unitN t % 10] := by
 have : t = 0 ∨ t = 1 ∨ t = 2 ∨ t = 3 := by omega
 rcases this with rfl | rfl | rfl | rfl <;> exact ⟨by decide, by decide, by decide, rfl⟩
def TxtW (n0 B bb R : Nat) (w V2 : World) (sl : Value) (L : List Nat) (g t : Nat) (W : World) : Prop :=
 (∃ v, Boxed W B 44 v ∧ Own8 W n0 v (L ++ (fourD g).take t)) ∧ Boxed W bb 119 sl ∧ Below n0 w W ∧ KeepsFrom R V2 W ∧ (∀ i, (i < n0 ∨ i = bb) → W.heap[i]? = V2.heap[i]?)
theorem nat_row_ne : (119 : TypeId) ≠ 5 := by decide
theorem txt_step {n0 B bb R : Nat} {w V2 W : World} {ad : Option Addr} {k cap : Nat} {L : List Nat} {g t x : Nat} (h : TxtW n0 B bb R w V2 (.slice ad k cap) L g t W) (hL : 0 < L.length) (hLl : L.length ≤ 1000000) (hn0 : n0 ≤ W.heap.size) (hB : n0 ≤ B) (hne : B ≠ bb) (z : Int) (hz : z = (x : Nat)) (hx : (fourD g).take (t + 1) = (fourD g).take t ++ [x]) (ht : t ≤ 4) :
 ∃ g1 q1 c1 g2 q2 c2 W2, Boxed W B 44 (.slice (some ⟨g1, 0, none⟩) q1 c1) ∧ (Builtin.append_ #[44, 44] 44 #[.slice (some ⟨g1, 0, none⟩) q1 c1, .slice (some ⟨W.heap.size, 0, none⟩) 1 1]).run Tryz.prog (W.alloc (.cells #[.int .u8 z] 5)).drew = .ok (.slice (some ⟨g2, 0, none⟩) q2 c2) W2 ∧
  Boxed W2 B 44 (.slice (some ⟨g1, 0, none⟩) q1 c1) ∧ TxtW n0 B bb R w V2 (.slice ad k cap) L g (t + 1) (W2.setCell ⟨B, 0, none⟩ (.slice (some ⟨g2, 0, none⟩) q2 c2)) := by
 obtain ⟨⟨v, hbx, hown⟩, hbk, hb, hkf, hki⟩ := h
 have hlen : (L ++ (fourD g).take t).length ≤ 1000004 := by rw [List.length_append, List.length_take]; omega
 obtain ⟨q, hq⟩ : ∃ q, (L ++ (fourD g).take t).length = q := ⟨_, rfl⟩
 have hq0 : 0 < q := by rw [← hq, List.length_append]; omega
 obtain ⟨g1, c1, rfl, _, _, _, _, _⟩ := hown.form q hq hq0
 obtain ⟨Wa, hWa⟩ : ∃ Wa, (W.alloc (.cells #[.int .u8 z] 5)).drew = Wa := ⟨_, rfl⟩
 have ownA : Own8 Wa n0 (.slice (some ⟨g1, 0, none⟩) q c1) (L ++ (fourD g).take t) := by rw [← hWa]; exact (hown.alloc _).heq rfl
 have bA : Below n0 w Wa := by rw [← hWa]; exact below_same (hb.alloc hn0 _) rfl rfl rfl rfl
 have sA : n0 ≤ Wa.heap.size := by rw [← hWa]; show n0 ≤ (W.alloc _).heap.size; simp; omega
 have nA : NumsAt .u8 Wa W.heap.size 0 [x] := by rw [← hWa]; exact (new_num1 .u8 W z x hz _).heq rfl
 have bxA : Boxed Wa B 44 (.slice (some ⟨g1, 0, none⟩) q c1) := by rw [← hWa]; exact hbx.alloc _
 have bkA : Boxed Wa bb 119 (.slice ad k cap) := by rw [← hWa]; exact hbk.alloc _
 have kA : KeepsFrom R V2 Wa := by rw [← hWa]; exact hkf.trans (calls_keep (below_same ((Below.refl _ W).alloc (Nat.le_refl _) _) rfl rfl rfl rfl))
 have iA : ∀ i, (i < n0 ∨ i = bb) → Wa.heap[i]? = V2.heap[i]? := by
  rw [← hWa]
  intro i hi
  exact (Below.heap_alloc W _ i (by rcases hi with h | h; omega; rw [h]; exact hbk.lt)).trans (hki i hi)
 obtain ⟨v', W2, heq, own2, hb2, hgr⟩ := run_push8 Wa w n0 44 _ _ [x] ownA bA sA W.heap.size 0 1 1 rfl nA (by omega)
 obtain ⟨q2, hq2⟩ : ∃ q2, (L ++ (fourD g).take t ++ [x]).length = q2 := ⟨_, rfl⟩
 obtain ⟨g2, c2, rfl, _, _, _, _, _⟩ := own2.form q2 hq2 (by rw [← hq2, List.length_append]; simp)
 have e1 := bxA.not_row box_row_ne ownA
 have e2 := bkA.not_row nat_row_ne ownA
 have bx2 : Boxed W2 B 44 (.slice (some ⟨g1, 0, none⟩) q c1) := bxA.kept hgr e1
 have bk2 : Boxed W2 bb 119 (.slice ad k cap) := bkA.kept hgr e2
 refine ⟨g1, q, c1, g2, q2, c2, W2, hbx, by rw [hWa]; exact heq, bx2, ⟨_, bx2.set _, ?_⟩, bk2.other (Ne.symm hne) _, hb2.setCell (p := ⟨B, 0, none⟩) hB _, ?_, ?_⟩
 · have := own8_setBox own2 bx2 (.slice (some ⟨g2, 0, none⟩) q2 c2)
   rw [hx, ← List.append_assoc]
   exact this
 · refine kA.trans (KeepsFrom.trans ((KeepsOthers.of_grownBy hgr ?_).from _) ((KeepsOthers.setCell _ _ _).from _))
   rintro j o hj ho
   obtain ⟨_, ⟨_, h0⟩ | ⟨g', cap', cur, hv, _, hh, _⟩⟩ := ownA
   · omega
   cases hv
   cases hj
   rw [hh] at ho
   cases ho
   rfl
 intro i hi
 have hib : i ≠ B := by rcases hi with h | h; omega; rw [h]; exact Ne.symm hne
 refine (Below.heap_setCell _ _ _ _ hib).trans ?_
 rcases hi with h | h
 · rw [hb2.block i h]; exact (hb.block i h).symm.trans (hki i (.inl h))
 rw [h]
 exact (bk2 : W2.heap[bb]? = _).trans ((bkA : Wa.heap[bb]? = _).symm.trans (iA bb (.inr rfl)))
theorem textM_in (n x : Nat) (hx0 : x ≠ 0) (ad : Option Addr) (cap m : Nat) (w : World) (h : NatAt w ad m cap x) (hm : m ≤ 1000) (hR : Ready w) :
 CallsIn Fence.wide n Tryz.prog 141 #[.slice ad m cap] w fun e w' => e = .returned (.string (byteL (textN x))) ∧ Below w.heap.size w w' := by
 obtain ⟨e1, H1⟩ := h
 have hg := grps_lt x
 have hc := grps_canonG x
 have hv := valG_grps x
 have hm0 : 0 < m := by rw [← e1, grps_pos hx0]; simp
 obtain ⟨l, hl⟩ : ∃ l, grps x = l := ⟨_, rfl⟩
 rw [hl] at H1 e1 hg hc hv
 obtain ⟨k, rfl⟩ : ∃ k, m = k + 1 := ⟨m - 1, by omega⟩
 obtain ⟨ga, oa, rfl, hga, hsa⟩ := H1.at (by omega)
 obtain ⟨top, htop⟩ : ∃ t, l.getD k 0 = t := ⟨_, rfl⟩
 have ctop := hsa k (by omega)
 rw [htop] at ctop
 have htl := getG_grp hg k
 rw [htop] at htl
 have hxt := text_top (l := l) (by omega)
 rw [e1, Nat.add_sub_cancel, htop] at hxt
 have hj := fun w => atN ga oa (k + 1) cap k (k : Int) rfl (by omega) w
 have hmk := fun W => make_bytes0 (4 * (k + 1)) (by omega) W (4 * ((k : Int) + 1)) (by omega)
 have hown := fun (W : World) (hW : w.heap.size ≤ W.heap.size) => own8_made W w.heap.size (4 * (k + 1)) hW (by omega)
 obtain ⟨Z, hZ⟩ : ∃ Z, numVals .u8 (List.replicate (4 * (k + 1)) 0) = Z := ⟨_, rfl⟩
 rw [hZ] at hmk hown
 have hap := fun (W : World) (g : Nat) (b : Below w.heap.size w W) (ho : Own8 W w.heap.size (.slice (some ⟨g, 0, none⟩) 0 (4 * (k + 1))) []) =>
  strconv_AppendInt_10 w.heap.size 0 (top : Int) (by omega) (by omega) (.slice (some ⟨g, 0, none⟩) 0 (4 * (k + 1))) [] W ho b.size (by omega) ((Lib.tabBelow_of_tabIs hR).on b)
 rw [itoa_cells, itoa_len, List.nil_append, Nat.zero_add] at hap
 have hcell : ∀ W, Below w.heap.size w W → W.cell? ⟨ga, oa + k, none⟩ = some (.int .i64 (top : Int)) := fun W b => (b.cell (p := ⟨ga, oa + k, none⟩) hga).trans ctop
 have HM := hid hmk; have HOWN := hid hown; have HAP := hid hap; have HC := hid hcell; have HXT := hid hxt
 have hz1 : (((k + 1 : Nat) : Int) == 0) = false := by rw [beq_eq_false_iff_ne]; omega
 have hw1 : IntKind.i64.wrap (4 * ((k : Int) + 1)) = 4 * ((k : Int) + 1) := IntWalk.i64_in _ (by omega)
 have hBa : Below w.heap.size w ((w.alloc (.cells #[.slice none 0 0] 44)).alloc (.cells Z.toArray 5)).drew := below_same (((Below.refl _ w).alloc (Nat.le_refl _) _).alloc (by simp) _) rfl rfl rfl rfl
 have hBb : Below w.heap.size w ((w.alloc (.cells Z.toArray 5)).alloc (.cells #[.slice none 0 0] 44)).drew := below_same (((Below.refl _ w).alloc (Nat.le_refl _) _).alloc (by simp) _) rfl rfl rfl rfl
 have hBc : Below w.heap.size w (w.alloc (.cells Z.toArray 5)).drew := below_same ((Below.refl _ w).alloc (Nat.le_refl _) _) rfl rfl rfl rfl
 have oa1 := hown (w.alloc (.cells #[.slice none 0 0] 44)) (by simp)
 rw [World.size_alloc] at oa1
 have oc1 := hown w (Nat.le_refl _)
 have ha := hap _ _ hBa (oa1.heq rfl)
 have hb := hap _ _ hBb ((oc1.alloc (.cells #[.slice none 0 0] 44)).heq rfl)
 have hcc := hap _ _ hBc (oc1.heq rfl)
 have xa : Boxed ((w.alloc (.cells #[.slice none 0 0] 44)).alloc (.cells Z.toArray 5)).drew w.heap.size 44 (.slice none 0 0) := (Boxed.new w _ _).alloc _
 have xb : Boxed ((w.alloc (.cells Z.toArray 5)).alloc (.cells #[.slice none 0 0] 44)).drew (w.heap.size + 1) 44 (.slice none 0 0) := by
  have := Boxed.new (w.alloc (.cells Z.toArray 5)) 44 (.slice none 0 0)
  rw [World.size_alloc] at this
  exact this
 have HA := hid ha; have HBB := hid hb; have HCC := hid hcc; have XA := hid xa; have XB := hid xb; have BA := hid hBa; have BB := hid hBb; have BC := hid hBc
 clear ha hb hcc xa xb hBa hBb hBc oa1 oc1
 obtain ⟨q5, hq5⟩ : ∃ q, (textN top).length = q := ⟨_, rfl⟩
 have hq0 : 0 < q5 := by rw [← hq5]; exact List.length_pos_iff.2 (textN_ne_nil top)
 have HQ5 := hid hq5
 clear hown hap hcell hxt hsa htop hl hZ hq5
 refine callsIn_of_wp_marks Tryz.func141 rfl trivial ?_ rfl
 simp only [Tryz.ntmps141, List.size_toArray, List.length_cons, List.length_nil, Nat.reduceAdd, Nat.reduceSub, Array.replicate_succ, Array.replicate_zero, List.push_toArray, List.append_toArray, List.nil_append, List.cons_append]
 gi_wp2_with fail
 refine code_cut2 (α := Nat × Nat × Value) (fun p => { tmps := #[.slice (some ⟨ga, oa, none⟩) (k + 1) cap, undef, .string { data := #[] }, .int .i64 (k : Int), .pointer (some ⟨p.2.1, 0, none⟩), undef, undef, undef, .slice (some ⟨ga, oa, none⟩) (k + 1) cap, .int .i64 ((k : Int) + 1), .bool false, .slice (some ⟨ga, oa, none⟩) (k + 1) cap, .int .i64 ((k : Int) + 1), .int .i64 (k : Int), .slice (some ⟨ga, oa, none⟩) (k + 1) cap, .int .i64 ((k : Int) + 1), .int .i64 (4 * ((k : Int) + 1)), .slice (some ⟨p.1, 0, none⟩) 0 (4 * (k + 1)), .slice (some ⟨ga, oa, none⟩) (k + 1) cap, .int .i64 (k : Int), .pointer (some ⟨ga, oa + k, none⟩), .int .i64 (top : Int), p.2.2, undef, undef, undef, undef, undef, undef, undef, undef, undef, undef, undef, undef, undef, undef, undef, undef, undef, undef, undef, undef, undef], defers := [] }) (fun p W => RowBox w.heap.size w (textN top) p.2.1 p.2.2 W) ?region ?post
 case region =>
  gi_region_with (first | (refine ⟨trivial, (fun h => by cases h), ?_⟩; gi_at_call 159; (with_reducible refine (callsIn_wide.2 HA.out).mono ?_); rintro e w5 ⟨v5, rfl, ho5', hb5', hk5⟩; have ho5 : Own8 w5 w.heap.size v5 (textN top) := ho5'; obtain ⟨g5, cap5, rfl, _, _, _, _, _⟩ := ho5.form q5 HQ5.out hq0; have x5 : Boxed w5 (w.heap.size) 44 (.slice none 0 0) := boxed_others XA.out hk5; have c5 := x5.cell; have f5 := x5.frozen; have hb5 : Below w.heap.size w w5 := BA.out.trans hb5') | (refine ⟨trivial, (fun h => by cases h), ?_⟩; gi_at_call 159; (with_reducible refine (callsIn_wide.2 HBB.out).mono ?_); rintro e w5 ⟨v5, rfl, ho5', hb5', hk5⟩; have ho5 : Own8 w5 w.heap.size v5 (textN top) := ho5'; obtain ⟨g5, cap5, rfl, _, _, _, _, _⟩ := ho5.form q5 HQ5.out hq0; have x5 : Boxed w5 (w.heap.size + 1) 44 (.slice none 0 0) := boxed_others XB.out hk5; have c5 := x5.cell; have f5 := x5.frozen; have hb5 : Below w.heap.size w w5 := BB.out.trans hb5') | (refine ⟨trivial, (fun h => by cases h), ?_⟩; gi_at_call 159; (with_reducible refine (callsIn_wide.2 HCC.out).mono ?_); rintro e w5 ⟨v5, rfl, ho5', hb5', hk5⟩; have ho5 : Own8 w5 w.heap.size v5 (textN top) := ho5'; obtain ⟨g5, cap5, rfl, _, _, _, _, _⟩ := ho5.form q5 HQ5.out hq0; have hb5 : Below w.heap.size w w5 := BC.out.trans hb5'))
  all_goals (first
   | exact ⟨(_, _, _), rfl, x5.set _, own8_setBox ho5 x5 _, hb5.setCell (p := ⟨_, 0, none⟩) (by simp) _, by simp⟩
   | exact ⟨(_, _, _), rfl, Boxed.new w5 _ _, ho5.alloc _, hb5.alloc hb5.size _, hb5.size⟩)
 case post =>
  rintro ⟨b17, B, v⟩ W ⟨bx, own, hb, hBn⟩
  dsimp only at bx own hBn ⊢
  have hbl : B < W.heap.size := bx.lt
  obtain ⟨W1, hW1⟩ : ∃ W1, W.alloc (.cells #[.slice (some ⟨ga, oa, none⟩) k cap] 119) = W1 := ⟨_, rfl⟩
  have hsz : W1.heap.size = W.heap.size + 1 := by rw [← hW1]; simp
  have hb1 : Below w.heap.size w W1 := by rw [← hW1]; exact hb.alloc hb.size _
  have bx1 : Boxed W1 B 44 v := by rw [← hW1]; exact bx.alloc _
  have own1 : Own8 W1 w.heap.size v (textN top) := by rw [← hW1]; exact own.alloc _
  have bk1 : Boxed W1 W.heap.size 119 (.slice (some ⟨ga, oa, none⟩) k cap) := by rw [← hW1]; exact Boxed.new W _ _
  have hsl := fun w' => sliceN_to (some ⟨ga, oa, none⟩) (k + 1) cap k (k : Int) rfl (by have := H1.1; omega) w'
  have hzs : (l.take k).length = k := by rw [List.length_take]; omega
  have hHz := H1.take k
  have hHz1 := hHz.below hb1 (Nat.le_refl _)
  rw [← HXT.out] at own1
  have HW1 := hid hW1; have HSZ := hid hsz; have HB1 := hid hb1; have BX1 := hid bx1; have OWN1 := hid own1; have BK1 := hid bk1; have HZ := hid hzs; have HHZ := hid hHz; have HHZ1 := hid hHz1; have HG := hid hg; have HCN := hid hc; have HV := hid hv; have HL := hid e1; have HWS := hid hb.size
  clear hW1 hsz hb1 bx1 own1 bk1 hzs hHz hHz1 H1 hg hc hv bx own hb hmk HM HOWN HAP HC HA HBB HCC XA XB BA BB BC e1
  gi_wp2_with (refine ⟨trivial, (fun h => by cases h), ?_⟩; gi_at_call 156; refine (callsIn_wide.2 (backN_any _ _ _ _)).mono ?_; rintro e w' ⟨rfl, rfl⟩)
  rw [HW1.out]
  refine rangeFunc_nat (gf := 169) (lb := #[.pointer (some ⟨W.heap.size, 0, none⟩)]) rfl (enters_of Tryz.func169 (by kernel_rfl) rfl)
   k (fun j => #[Value.int .i64 ((k - 1 - j : Nat) : Int), Value.int .i64 (((l.take k).getD (k - 1 - j) 0 : Nat) : Int)]) (fun _ => rfl) (fun j => j < w.heap.size ∨ j = W.heap.size) (fun j hj => by have := HSZ.out; have := HWS.out; omega)
   ?seq (fun j W' => ((∃ v, Boxed W' B 44 v ∧ Own8 W' w.heap.size v (textN (valG (l.drop (k - j))))) ∧ Boxed W' W.heap.size 119 (.slice (some ⟨ga, oa, none⟩) k cap)) ∧ Below w.heap.size w W')
   (fun _ _ => False) ?own (fun _ _ _ _ h _ _ => h) ⟨⟨⟨v, BX1.out, OWN1.out⟩, BK1.out⟩, HB1.out⟩ ?round ?done (fun _ _ h _ => h.elim)
  case seq =>
   intro l' J Jx W' hY hJ hold
   refine backN1_in (n - 1) l' W.heap.size k cap (by omega) (l.take k) HZ.out (some ⟨ga, oa, none⟩) _ (.inr rfl) ?_ J Jx hY W' ((World.cell?_of_block (hold W.heap.size (by have := HSZ.out; omega))).trans BK1.out.cell) ?_ hJ
   · rintro h0 g o e
     cases e
     exact .inl hga
   exact HHZ1.out.same hold
  case own =>
   refine OwnFrom.and (OwnFrom.and (Own.from ?_ _) ((boxed_own _ _ _).from _)) (ownFrom_below (Nat.le_refl _) (by have := HSZ.out; have := HWS.out; omega))
   rintro s X Y row ⟨v, hbx, hown⟩ hg hr
   refine ⟨v, hbx.kept hg (fun e => by obtain ⟨o, ho, hc⟩ := hr B e.symm; rw [show X.heap[B]? = _ from hbx] at ho; cases ho; cases hc), hown.1, hown.2.imp id ?_⟩
   rintro ⟨g, cp, cur, hv, hbg, hh, r⟩
   exact ⟨g, cp, cur, hv, hbg, (hg.block g (Array.getElem?_eq_some_iff.1 hh).1 (fun e => by obtain ⟨o, ho, hc⟩ := hr g e.symm; rw [hh] at ho; cases ho; cases hc)).trans hh, r⟩
  case round =>
   rintro l' j V V2 hj ⟨⟨⟨v, bxv, ownv⟩, bkv⟩, hbv⟩
   gi_wp2
   refine ⟨trivial, ?_⟩
   obtain ⟨m', hm'⟩ : ∃ m', k - 1 - j = m' := ⟨_, rfl⟩
   have hk1 : k - j = m' + 1 := by omega
   have hk2 : k - (j + 1) = m' := by omega
   have hml : m' < k := by omega
   rw [hm']
   rw [hk1] at ownv
   obtain ⟨g, hgd⟩ : ∃ g, l.getD m' 0 = g := ⟨_, rfl⟩
   rw [show (l.take k)[m']?.getD 0 = g by rw [List.getElem?_take_of_lt hml, ← List.getD_eq_getElem?_getD]; exact hgd]
   have hts := text_step HG.out HCN.out m' (by rw [HL.out]; omega)
   have hg4 := getG_grp HG.out m'
   rw [hgd] at hts hg4
   obtain ⟨L, hLd⟩ : ∃ L, textN (valG (l.drop (m' + 1))) = L := ⟨_, rfl⟩
   rw [hLd] at hts ownv
   have hL0 : 0 < L.length := by rw [← hLd]; exact List.length_pos_iff.2 (textN_ne_nil _)
   have hLl : L.length ≤ 1000000 := by
    have h1 := valG_lt (isGrp_drop HG.out (m' + 1))
    have h2 := textN_len_le h1
    rw [List.length_drop, HL.out, hLd] at h2
    omega
   have hst : TxtW w.heap.size B W.heap.size W1.heap.size w V2 (.slice (some ⟨ga, oa, none⟩) k cap) L g 0 V2 := ⟨⟨v, bxv, by rw [List.take_zero, List.append_nil]; exact ownv⟩, bkv, hbv, KeepsFrom.refl _ _, fun _ _ => rfl⟩
   have HST := hid hst; have HTS := hid hts
   clear hst hts bxv ownv bkv hbv hgd hLd hm'
   gi_wp2
   gi_loopw [7] (fun u wr => ∃ t : Nat, t ≤ 4 ∧ u = .int .i64 ((unitN t : Nat) : Int) ∧ Hid (TxtW w.heap.size B W.heap.size W1.heap.size w V2 (.slice (some ⟨ga, oa, none⟩) k cap) L g t wr)) (fun u _ => (RowKit.intOf u).toNat)
   case atStart => exact ⟨0, by omega, rfl, HST.out⟩
   obtain ⟨t, ht, rfl, htw⟩ := hrel
   by_cases ht4 : t < 4
   · obtain ⟨hu0, hu1, hu2, hu3⟩ := unit_step g t ht4
     obtain ⟨u, hu⟩ : ∃ u, unitN t = u := ⟨_, rfl⟩
     rw [hu] at hu0 hu1 hu2 hu3 ⊢
     obtain ⟨gu, hgu⟩ : ∃ q, g / u = q := ⟨_, rfl⟩
     obtain ⟨r, hr⟩ : ∃ q, gu % 10 = q := ⟨_, rfl⟩
     rw [hgu, hr] at hu3
     have hgul : gu < 10000 := by rw [← hgu]; exact Nat.lt_of_le_of_lt (Nat.div_le_self _ _) hg4
     have hr10 : r < 10 := by omega
     obtain ⟨g1, q1, c1, g2, q2, c2, W3, k1, k2, k3, k4⟩ := txt_step htw.out hL0 hLl htw.out.2.2.1.size hBn (by omega) (48 + (r : Int)) (by omega) hu3 (by omega)
     have d1 := k1.cell
     have d1b := (k1.alloc (.cells #[.int .u8 (48 + (r : Int))] 5)).cell
     have d2 := k3.cell
     have d3 := k3.frozen
     have hq1 : Int.tdiv (g : Int) (u : Int) = (gu : Int) := by rw [Int.tdiv_eq_ediv_of_nonneg (by omega), ← hgu]; simp
     have hq2 : Int.tmod (gu : Int) 10 = (r : Int) := by rw [Int.tmod_eq_emod_of_nonneg (by omega)]; omega
     have hw1 : IntKind.i64.wrap (gu : Int) = (gu : Int) := IntWalk.i64_in _ (by omega)
     have hw2 : IntKind.i64.wrap (r : Int) = (r : Int) := IntWalk.i64_in _ (by omega)
     have hw3 : IntKind.u8.wrap (r : Int) = (r : Int) := by rw [IntKind.wrap_u8]; omega
     have hw4 : IntKind.u8.wrap (48 + (r : Int)) = 48 + (r : Int) := by rw [IntKind.wrap_u8]; omega
     have hup : (0 : Int) < (u : Int) := by omega
     have hune : (u : Int) ≠ 0 := by omega
     have hune2 : u ≠ 0 := by omega
     have hq3 : (u : Int) / 10 = ((unitN (t + 1) : Nat) : Int) := by rw [hu2]; omega
     have HK4 := hid k4; have HQ3 := hid hq3; have HU2 := hid hu2
     have K2 := hid k2
     clear k1 k2 k3 k4 htw hu hgu hr hu3 hq3 hu2
     gi_wp2_with fail
     refine wpIn_region_any (by kernel_rfl) ?_
     change wpAnyIn _ _ _ _ _ _ _ _ _ (World.drew _)
     refine wpAnyIn_ready (rs := [0, 1, 2]) (by kernel_rfl) (by simp) ?_
     refine AllReadyIn.cons rfl (fun K hK => ?_) ?_
     · go_simp
       refine hK _ _ ?_
       clear hK K
       refine wpAnyIn_ready (rs := [1, 2]) (by kernel_rfl) (by simp) ?_
       refine AllReadyIn.cons rfl (fun K hK => ?_) ?_
       · go_simp
         refine hK _ _ ?_
         clear hK K
         refine wpAnyIn_ready (rs := [2]) (by kernel_rfl) (by simp) ?_
         refine AllReadyIn.cons rfl (fun K hK => ?_) ?_
         · go_simp
           refine hK _ _ ?_
           clear hK K
           refine wpAnyIn_ready (rs := [3]) (by kernel_rfl) (by simp) ?_
           refine AllReadyIn.cons rfl (fun K hK => ?_) ?_
           · go_simp
             refine hK _ _ ?_
             clear hK K
             refine wpAnyIn_ready (rs := [4]) (by kernel_rfl) (by simp) ?_
             refine AllReadyIn.cons rfl (fun K hK => ?_) ?_
             · go_simp
               refine hK _ _ ?_
               clear hK K
               refine wpAnyIn_ready (rs := [5]) (by kernel_rfl) (by simp) ?_
               refine AllReadyIn.cons rfl (fun K hK => ?_) ?_
               · go_simp
                 refine hK _ _ ?_
                 clear hK K
                 refine wpAnyIn_ready (rs := [6]) (by kernel_rfl) (by simp) ?_
                 refine AllReadyIn.cons rfl (fun K hK => ?_) ?_
                 · go_simp
                   refine hK _ _ ?_
                   clear hK K
                   refine wpAnyIn_ready (rs := [7]) (by kernel_rfl) (by simp) ?_
                   refine AllReadyIn.cons rfl (fun K hK => ?_) ?_
                   · go_simp
                     refine hK _ _ ?_
                     clear hK K
                     refine wpAnyIn_ready (rs := [8]) (by kernel_rfl) (by simp) ?_
                     refine AllReadyIn.cons rfl (fun K hK => ?_) ?_
                     · refine step_appendIn rfl (.tmp 33) (.tmp 40) 44 rfl rfl _ _ rfl rfl _ _ K2.out ?_
                       try go_simp
                       refine hK _ _ ?_
                       clear hK K
                       refine wpAnyIn_ready (rs := [9]) (by kernel_rfl) (by simp) ?_
                       refine AllReadyIn.cons rfl (fun K hK => ?_) ?_
                       · go_simp
                         refine hK _ _ ?_
                         clear hK K
                         refine wpAnyIn_done (by kernel_rfl) ?_ _
                         gi_wp2
                         go_roundw
                         case rel => exact ⟨t + 1, by omega, congrArg (Value.int .i64) HQ3.out, HK4.out⟩
                         case measure => simp [RowKit.intOf]; omega
                       exact AllReadyIn.nil
                     exact AllReadyIn.nil
                   exact AllReadyIn.nil
                 exact AllReadyIn.nil
               exact AllReadyIn.nil
             exact AllReadyIn.nil
           exact AllReadyIn.nil
         exact AllReadyIn.nil
       refine AllReadyIn.cons rfl (fun K hK => ?_) ?_
       · go_simp
         refine hK _ _ ?_
         clear hK K
         refine wpAnyIn_ready (rs := [1]) (by kernel_rfl) (by simp) ?_
         refine AllReadyIn.cons rfl (fun K hK => ?_) ?_
         · go_simp
           refine hK _ _ ?_
           clear hK K
           refine wpAnyIn_ready (rs := [3]) (by kernel_rfl) (by simp) ?_
           refine AllReadyIn.cons rfl (fun K hK => ?_) ?_
           · go_simp
             refine hK _ _ ?_
             clear hK K
             refine wpAnyIn_ready (rs := [4]) (by kernel_rfl) (by simp) ?_
             refine AllReadyIn.cons rfl (fun K hK => ?_) ?_
             · go_simp
               refine hK _ _ ?_
               clear hK K
               refine wpAnyIn_ready (rs := [5]) (by kernel_rfl) (by simp) ?_
               refine AllReadyIn.cons rfl (fun K hK => ?_) ?_
               · go_simp
                 refine hK _ _ ?_
                 clear hK K
                 refine wpAnyIn_ready (rs := [6]) (by kernel_rfl) (by simp) ?_
                 refine AllReadyIn.cons rfl (fun K hK => ?_) ?_
                 · go_simp
                   refine hK _ _ ?_
                   clear hK K
                   refine wpAnyIn_ready (rs := [7]) (by kernel_rfl) (by simp) ?_
                   refine AllReadyIn.cons rfl (fun K hK => ?_) ?_
                   · go_simp
                     refine hK _ _ ?_
                     clear hK K
                     refine wpAnyIn_ready (rs := [8]) (by kernel_rfl) (by simp) ?_
                     refine AllReadyIn.cons rfl (fun K hK => ?_) ?_
                     · refine step_appendIn rfl (.tmp 33) (.tmp 40) 44 rfl rfl _ _ rfl rfl _ _ K2.out ?_
                       try go_simp
                       refine hK _ _ ?_
                       clear hK K
                       refine wpAnyIn_ready (rs := [9]) (by kernel_rfl) (by simp) ?_
                       refine AllReadyIn.cons rfl (fun K hK => ?_) ?_
                       · go_simp
                         refine hK _ _ ?_
                         clear hK K
                         refine wpAnyIn_done (by kernel_rfl) ?_ _
                         gi_wp2
                         go_roundw
                         case rel => exact ⟨t + 1, by omega, congrArg (Value.int .i64) HQ3.out, HK4.out⟩
                         case measure => simp [RowKit.intOf]; omega
                       exact AllReadyIn.nil
                     exact AllReadyIn.nil
                   exact AllReadyIn.nil
                 exact AllReadyIn.nil
               exact AllReadyIn.nil
             exact AllReadyIn.nil
           exact AllReadyIn.nil
         exact AllReadyIn.nil
       exact AllReadyIn.nil
     refine AllReadyIn.cons rfl (fun K hK => ?_) ?_
     · go_simp
       refine hK _ _ ?_
       clear hK K
       refine wpAnyIn_ready (rs := [0, 2]) (by kernel_rfl) (by simp) ?_
       refine AllReadyIn.cons rfl (fun K hK => ?_) ?_
       · go_simp
         refine hK _ _ ?_
         clear hK K
         refine wpAnyIn_ready (rs := [2]) (by kernel_rfl) (by simp) ?_
         refine AllReadyIn.cons rfl (fun K hK => ?_) ?_
         · go_simp
           refine hK _ _ ?_
           clear hK K
           refine wpAnyIn_ready (rs := [3]) (by kernel_rfl) (by simp) ?_
           refine AllReadyIn.cons rfl (fun K hK => ?_) ?_
           · go_simp
             refine hK _ _ ?_
             clear hK K
             refine wpAnyIn_ready (rs := [4]) (by kernel_rfl) (by simp) ?_
             refine AllReadyIn.cons rfl (fun K hK => ?_) ?_
             · go_simp
               refine hK _ _ ?_
               clear hK K
               refine wpAnyIn_ready (rs := [5]) (by kernel_rfl) (by simp) ?_
               refine AllReadyIn.cons rfl (fun K hK => ?_) ?_
               · go_simp
                 refine hK _ _ ?_
                 clear hK K
                 refine wpAnyIn_ready (rs := [6]) (by kernel_rfl) (by simp) ?_
                 refine AllReadyIn.cons rfl (fun K hK => ?_) ?_
                 · go_simp
                   refine hK _ _ ?_
                   clear hK K
                   refine wpAnyIn_ready (rs := [7]) (by kernel_rfl) (by simp) ?_
                   refine AllReadyIn.cons rfl (fun K hK => ?_) ?_
                   · go_simp
                     refine hK _ _ ?_
                     clear hK K
                     refine wpAnyIn_ready (rs := [8]) (by kernel_rfl) (by simp) ?_
                     refine AllReadyIn.cons rfl (fun K hK => ?_) ?_
                     · refine step_appendIn rfl (.tmp 33) (.tmp 40) 44 rfl rfl _ _ rfl rfl _ _ K2.out ?_
                       try go_simp
                       refine hK _ _ ?_
                       clear hK K
                       refine wpAnyIn_ready (rs := [9]) (by kernel_rfl) (by simp) ?_
                       refine AllReadyIn.cons rfl (fun K hK => ?_) ?_
                       · go_simp
                         refine hK _ _ ?_
                         clear hK K
                         refine wpAnyIn_done (by kernel_rfl) ?_ _
                         gi_wp2
                         go_roundw
                         case rel => exact ⟨t + 1, by omega, congrArg (Value.int .i64) HQ3.out, HK4.out⟩
                         case measure => simp [RowKit.intOf]; omega
                       exact AllReadyIn.nil
                     exact AllReadyIn.nil
                   exact AllReadyIn.nil
                 exact AllReadyIn.nil
               exact AllReadyIn.nil
             exact AllReadyIn.nil
           exact AllReadyIn.nil
         exact AllReadyIn.nil
       refine AllReadyIn.cons rfl (fun K hK => ?_) ?_
       · go_simp
         refine hK _ _ ?_
         clear hK K
         refine wpAnyIn_ready (rs := [0, 3]) (by kernel_rfl) (by simp) ?_
         refine AllReadyIn.cons rfl (fun K hK => ?_) ?_
         · go_simp
           refine hK _ _ ?_
           clear hK K
           refine wpAnyIn_ready (rs := [3]) (by kernel_rfl) (by simp) ?_
           refine AllReadyIn.cons rfl (fun K hK => ?_) ?_
           · go_simp
             refine hK _ _ ?_
             clear hK K
             refine wpAnyIn_ready (rs := [4]) (by kernel_rfl) (by simp) ?_
             refine AllReadyIn.cons rfl (fun K hK => ?_) ?_
             · go_simp
               refine hK _ _ ?_
               clear hK K
               refine wpAnyIn_ready (rs := [5]) (by kernel_rfl) (by simp) ?_
               refine AllReadyIn.cons rfl (fun K hK => ?_) ?_
               · go_simp
                 refine hK _ _ ?_
                 clear hK K
                 refine wpAnyIn_ready (rs := [6]) (by kernel_rfl) (by simp) ?_
                 refine AllReadyIn.cons rfl (fun K hK => ?_) ?_
                 · go_simp
                   refine hK _ _ ?_
                   clear hK K
                   refine wpAnyIn_ready (rs := [7]) (by kernel_rfl) (by simp) ?_
                   refine AllReadyIn.cons rfl (fun K hK => ?_) ?_
                   · go_simp
                     refine hK _ _ ?_
                     clear hK K
                     refine wpAnyIn_ready (rs := [8]) (by kernel_rfl) (by simp) ?_
                     refine AllReadyIn.cons rfl (fun K hK => ?_) ?_
                     · refine step_appendIn rfl (.tmp 33) (.tmp 40) 44 rfl rfl _ _ rfl rfl _ _ K2.out ?_
                       try go_simp
                       refine hK _ _ ?_
                       clear hK K
                       refine wpAnyIn_ready (rs := [9]) (by kernel_rfl) (by simp) ?_
                       refine AllReadyIn.cons rfl (fun K hK => ?_) ?_
                       · go_simp
                         refine hK _ _ ?_
                         clear hK K
                         refine wpAnyIn_done (by kernel_rfl) ?_ _
                         gi_wp2
                         go_roundw
                         case rel => exact ⟨t + 1, by omega, congrArg (Value.int .i64) HQ3.out, HK4.out⟩
                         case measure => simp [RowKit.intOf]; omega
                       exact AllReadyIn.nil
                     exact AllReadyIn.nil
                   exact AllReadyIn.nil
                 exact AllReadyIn.nil
               exact AllReadyIn.nil
             exact AllReadyIn.nil
           exact AllReadyIn.nil
         refine AllReadyIn.cons rfl (fun K hK => ?_) ?_
         · go_simp
           refine hK _ _ ?_
           clear hK K
           refine wpAnyIn_ready (rs := [0, 4]) (by kernel_rfl) (by simp) ?_
           refine AllReadyIn.cons rfl (fun K hK => ?_) ?_
           · go_simp
             refine hK _ _ ?_
             clear hK K
             refine wpAnyIn_ready (rs := [4]) (by kernel_rfl) (by simp) ?_
             refine AllReadyIn.cons rfl (fun K hK => ?_) ?_
             · go_simp
               refine hK _ _ ?_
               clear hK K
               refine wpAnyIn_ready (rs := [5]) (by kernel_rfl) (by simp) ?_
               refine AllReadyIn.cons rfl (fun K hK => ?_) ?_
               · go_simp
                 refine hK _ _ ?_
                 clear hK K
                 refine wpAnyIn_ready (rs := [6]) (by kernel_rfl) (by simp) ?_
                 refine AllReadyIn.cons rfl (fun K hK => ?_) ?_
                 · go_simp
                   refine hK _ _ ?_
                   clear hK K
                   refine wpAnyIn_ready (rs := [7]) (by kernel_rfl) (by simp) ?_
                   refine AllReadyIn.cons rfl (fun K hK => ?_) ?_
                   · go_simp
                     refine hK _ _ ?_
                     clear hK K
                     refine wpAnyIn_ready (rs := [8]) (by kernel_rfl) (by simp) ?_
                     refine AllReadyIn.cons rfl (fun K hK => ?_) ?_
                     · refine step_appendIn rfl (.tmp 33) (.tmp 40) 44 rfl rfl _ _ rfl rfl _ _ K2.out ?_
                       try go_simp
                       refine hK _ _ ?_
                       clear hK K
                       refine wpAnyIn_ready (rs := [9]) (by kernel_rfl) (by simp) ?_
                       refine AllReadyIn.cons rfl (fun K hK => ?_) ?_
                       · go_simp
                         refine hK _ _ ?_
                         clear hK K
                         refine wpAnyIn_done (by kernel_rfl) ?_ _
                         gi_wp2
                         go_roundw
                         case rel => exact ⟨t + 1, by omega, congrArg (Value.int .i64) HQ3.out, HK4.out⟩
                         case measure => simp [RowKit.intOf]; omega
                       exact AllReadyIn.nil
                     exact AllReadyIn.nil
                   exact AllReadyIn.nil
                 exact AllReadyIn.nil
               exact AllReadyIn.nil
             exact AllReadyIn.nil
           refine AllReadyIn.cons rfl (fun K hK => ?_) ?_
           · go_simp
             refine hK _ _ ?_
             clear hK K
             refine wpAnyIn_ready (rs := [0, 5]) (by kernel_rfl) (by simp) ?_
             refine AllReadyIn.cons rfl (fun K hK => ?_) ?_
             · go_simp
               refine hK _ _ ?_
               clear hK K
               refine wpAnyIn_ready (rs := [5]) (by kernel_rfl) (by simp) ?_
               refine AllReadyIn.cons rfl (fun K hK => ?_) ?_
               · go_simp
                 refine hK _ _ ?_
                 clear hK K
                 refine wpAnyIn_ready (rs := [6]) (by kernel_rfl) (by simp) ?_
                 refine AllReadyIn.cons rfl (fun K hK => ?_) ?_
                 · go_simp
                   refine hK _ _ ?_
                   clear hK K
                   refine wpAnyIn_ready (rs := [7]) (by kernel_rfl) (by simp) ?_
                   refine AllReadyIn.cons rfl (fun K hK => ?_) ?_
                   · go_simp
                     refine hK _ _ ?_
                     clear hK K
                     refine wpAnyIn_ready (rs := [8]) (by kernel_rfl) (by simp) ?_
                     refine AllReadyIn.cons rfl (fun K hK => ?_) ?_
                     · refine step_appendIn rfl (.tmp 33) (.tmp 40) 44 rfl rfl _ _ rfl rfl _ _ K2.out ?_
                       try go_simp
                       refine hK _ _ ?_
                       clear hK K
                       refine wpAnyIn_ready (rs := [9]) (by kernel_rfl) (by simp) ?_
                       refine AllReadyIn.cons rfl (fun K hK => ?_) ?_
                       · go_simp
                         refine hK _ _ ?_
                         clear hK K
                         refine wpAnyIn_done (by kernel_rfl) ?_ _
                         gi_wp2
                         go_roundw
                         case rel => exact ⟨t + 1, by omega, congrArg (Value.int .i64) HQ3.out, HK4.out⟩
                         case measure => simp [RowKit.intOf]; omega
                       exact AllReadyIn.nil
                     exact AllReadyIn.nil
                   exact AllReadyIn.nil
                 exact AllReadyIn.nil
               exact AllReadyIn.nil
             refine AllReadyIn.cons rfl (fun K hK => ?_) ?_
             · go_simp
               refine hK _ _ ?_
               clear hK K
               refine wpAnyIn_ready (rs := [0, 6]) (by kernel_rfl) (by simp) ?_
               refine AllReadyIn.cons rfl (fun K hK => ?_) ?_
               · go_simp
                 refine hK _ _ ?_
                 clear hK K
                 refine wpAnyIn_ready (rs := [6]) (by kernel_rfl) (by simp) ?_
                 refine AllReadyIn.cons rfl (fun K hK => ?_) ?_
                 · go_simp
                   refine hK _ _ ?_
                   clear hK K
                   refine wpAnyIn_ready (rs := [7]) (by kernel_rfl) (by simp) ?_
                   refine AllReadyIn.cons rfl (fun K hK => ?_) ?_
                   · go_simp
                     refine hK _ _ ?_
                     clear hK K
                     refine wpAnyIn_ready (rs := [8]) (by kernel_rfl) (by simp) ?_
                     refine AllReadyIn.cons rfl (fun K hK => ?_) ?_
                     · refine step_appendIn rfl (.tmp 33) (.tmp 40) 44 rfl rfl _ _ rfl rfl _ _ K2.out ?_
                       try go_simp
                       refine hK _ _ ?_
                       clear hK K
                       refine wpAnyIn_ready (rs := [9]) (by kernel_rfl) (by simp) ?_
                       refine AllReadyIn.cons rfl (fun K hK => ?_) ?_
                       · go_simp
                         refine hK _ _ ?_
                         clear hK K
                         refine wpAnyIn_done (by kernel_rfl) ?_ _
                         gi_wp2
                         go_roundw
                         case rel => exact ⟨t + 1, by omega, congrArg (Value.int .i64) HQ3.out, HK4.out⟩
                         case measure => simp [RowKit.intOf]; omega
                       exact AllReadyIn.nil
                     exact AllReadyIn.nil
                   exact AllReadyIn.nil
                 exact AllReadyIn.nil
               refine AllReadyIn.cons rfl (fun K hK => ?_) ?_
               · go_simp
                 refine hK _ _ ?_
                 clear hK K
                 refine wpAnyIn_ready (rs := [0, 7]) (by kernel_rfl) (by simp) ?_
                 refine AllReadyIn.cons rfl (fun K hK => ?_) ?_
                 · go_simp
                   refine hK _ _ ?_
                   clear hK K
                   refine wpAnyIn_ready (rs := [7]) (by kernel_rfl) (by simp) ?_
                   refine AllReadyIn.cons rfl (fun K hK => ?_) ?_
                   · go_simp
                     refine hK _ _ ?_
                     clear hK K
                     refine wpAnyIn_ready (rs := [8]) (by kernel_rfl) (by simp) ?_
                     refine AllReadyIn.cons rfl (fun K hK => ?_) ?_
                     · refine step_appendIn rfl (.tmp 33) (.tmp 40) 44 rfl rfl _ _ rfl rfl _ _ K2.out ?_
                       try go_simp
                       refine hK _ _ ?_
                       clear hK K
                       refine wpAnyIn_ready (rs := [9]) (by kernel_rfl) (by simp) ?_
                       refine AllReadyIn.cons rfl (fun K hK => ?_) ?_
                       · go_simp
                         refine hK _ _ ?_
                         clear hK K
                         refine wpAnyIn_done (by kernel_rfl) ?_ _
                         gi_wp2
                         go_roundw
                         case rel => exact ⟨t + 1, by omega, congrArg (Value.int .i64) HQ3.out, HK4.out⟩
                         case measure => simp [RowKit.intOf]; omega
                       exact AllReadyIn.nil
                     exact AllReadyIn.nil
                   exact AllReadyIn.nil
                 refine AllReadyIn.cons rfl (fun K hK => ?_) ?_
                 · go_simp
                   refine hK _ _ ?_
                   clear hK K
                   refine wpAnyIn_ready (rs := [0]) (by kernel_rfl) (by simp) ?_
                   refine AllReadyIn.cons rfl (fun K hK => ?_) ?_
                   · go_simp
                     refine hK _ _ ?_
                     clear hK K
                     refine wpAnyIn_ready (rs := [8]) (by kernel_rfl) (by simp) ?_
                     refine AllReadyIn.cons rfl (fun K hK => ?_) ?_
                     · refine step_appendIn rfl (.tmp 33) (.tmp 40) 44 rfl rfl _ _ rfl rfl _ _ K2.out ?_
                       try go_simp
                       refine hK _ _ ?_
                       clear hK K
                       refine wpAnyIn_ready (rs := [9]) (by kernel_rfl) (by simp) ?_
                       refine AllReadyIn.cons rfl (fun K hK => ?_) ?_
                       · go_simp
                         refine hK _ _ ?_
                         clear hK K
                         refine wpAnyIn_done (by kernel_rfl) ?_ _
                         gi_wp2
                         go_roundw
                         case rel => exact ⟨t + 1, by omega, congrArg (Value.int .i64) HQ3.out, HK4.out⟩
                         case measure => simp [RowKit.intOf]; omega
                       exact AllReadyIn.nil
                     exact AllReadyIn.nil
                   exact AllReadyIn.nil
                 exact AllReadyIn.nil
               exact AllReadyIn.nil
             exact AllReadyIn.nil
           exact AllReadyIn.nil
         exact AllReadyIn.nil
       exact AllReadyIn.nil
     refine AllReadyIn.cons rfl (fun K hK => ?_) ?_
     · go_simp
       refine hK _ _ ?_
       clear hK K
       refine wpAnyIn_ready (rs := [0, 1]) (by kernel_rfl) (by simp) ?_
       refine AllReadyIn.cons rfl (fun K hK => ?_) ?_
       · go_simp
         refine hK _ _ ?_
         clear hK K
         refine wpAnyIn_ready (rs := [1]) (by kernel_rfl) (by simp) ?_
         refine AllReadyIn.cons rfl (fun K hK => ?_) ?_
         · go_simp
           refine hK _ _ ?_
           clear hK K
           refine wpAnyIn_ready (rs := [3]) (by kernel_rfl) (by simp) ?_
           refine AllReadyIn.cons rfl (fun K hK => ?_) ?_
           · go_simp
             refine hK _ _ ?_
             clear hK K
             refine wpAnyIn_ready (rs := [4]) (by kernel_rfl) (by simp) ?_
             refine AllReadyIn.cons rfl (fun K hK => ?_) ?_
             · go_simp
               refine hK _ _ ?_
               clear hK K
               refine wpAnyIn_ready (rs := [5]) (by kernel_rfl) (by simp) ?_
               refine AllReadyIn.cons rfl (fun K hK => ?_) ?_
               · go_simp
                 refine hK _ _ ?_
                 clear hK K
                 refine wpAnyIn_ready (rs := [6]) (by kernel_rfl) (by simp) ?_
                 refine AllReadyIn.cons rfl (fun K hK => ?_) ?_
                 · go_simp
                   refine hK _ _ ?_
                   clear hK K
                   refine wpAnyIn_ready (rs := [7]) (by kernel_rfl) (by simp) ?_
                   refine AllReadyIn.cons rfl (fun K hK => ?_) ?_
                   · go_simp
                     refine hK _ _ ?_
                     clear hK K
                     refine wpAnyIn_ready (rs := [8]) (by kernel_rfl) (by simp) ?_
                     refine AllReadyIn.cons rfl (fun K hK => ?_) ?_
                     · refine step_appendIn rfl (.tmp 33) (.tmp 40) 44 rfl rfl _ _ rfl rfl _ _ K2.out ?_
                       try go_simp
                       refine hK _ _ ?_
                       clear hK K
                       refine wpAnyIn_ready (rs := [9]) (by kernel_rfl) (by simp) ?_
                       refine AllReadyIn.cons rfl (fun K hK => ?_) ?_
                       · go_simp
                         refine hK _ _ ?_
                         clear hK K
                         refine wpAnyIn_done (by kernel_rfl) ?_ _
                         gi_wp2
                         go_roundw
                         case rel => exact ⟨t + 1, by omega, congrArg (Value.int .i64) HQ3.out, HK4.out⟩
                         case measure => simp [RowKit.intOf]; omega
                       exact AllReadyIn.nil
                     exact AllReadyIn.nil
                   exact AllReadyIn.nil
                 exact AllReadyIn.nil
               exact AllReadyIn.nil
             exact AllReadyIn.nil
           exact AllReadyIn.nil
         exact AllReadyIn.nil
       refine AllReadyIn.cons rfl (fun K hK => ?_) ?_
       · go_simp
         refine hK _ _ ?_
         clear hK K
         refine wpAnyIn_ready (rs := [0, 3]) (by kernel_rfl) (by simp) ?_
         refine AllReadyIn.cons rfl (fun K hK => ?_) ?_
         · go_simp
           refine hK _ _ ?_
           clear hK K
           refine wpAnyIn_ready (rs := [3]) (by kernel_rfl) (by simp) ?_
           refine AllReadyIn.cons rfl (fun K hK => ?_) ?_
           · go_simp
             refine hK _ _ ?_
             clear hK K
             refine wpAnyIn_ready (rs := [4]) (by kernel_rfl) (by simp) ?_
             refine AllReadyIn.cons rfl (fun K hK => ?_) ?_
             · go_simp
               refine hK _ _ ?_
               clear hK K
               refine wpAnyIn_ready (rs := [5]) (by kernel_rfl) (by simp) ?_
               refine AllReadyIn.cons rfl (fun K hK => ?_) ?_
               · go_simp
                 refine hK _ _ ?_
                 clear hK K
                 refine wpAnyIn_ready (rs := [6]) (by kernel_rfl) (by simp) ?_
                 refine AllReadyIn.cons rfl (fun K hK => ?_) ?_
                 · go_simp
                   refine hK _ _ ?_
                   clear hK K
                   refine wpAnyIn_ready (rs := [7]) (by kernel_rfl) (by simp) ?_
                   refine AllReadyIn.cons rfl (fun K hK => ?_) ?_
                   · go_simp
                     refine hK _ _ ?_
                     clear hK K
                     refine wpAnyIn_ready (rs := [8]) (by kernel_rfl) (by simp) ?_
                     refine AllReadyIn.cons rfl (fun K hK => ?_) ?_
                     · refine step_appendIn rfl (.tmp 33) (.tmp 40) 44 rfl rfl _ _ rfl rfl _ _ K2.out ?_
                       try go_simp
                       refine hK _ _ ?_
                       clear hK K
                       refine wpAnyIn_ready (rs := [9]) (by kernel_rfl) (by simp) ?_
                       refine AllReadyIn.cons rfl (fun K hK => ?_) ?_
                       · go_simp
                         refine hK _ _ ?_
                         clear hK K
                         refine wpAnyIn_done (by kernel_rfl) ?_ _
                         gi_wp2
                         go_roundw
                         case rel => exact ⟨t + 1, by omega, congrArg (Value.int .i64) HQ3.out, HK4.out⟩
                         case measure => simp [RowKit.intOf]; omega
                       exact AllReadyIn.nil
                     exact AllReadyIn.nil
                   exact AllReadyIn.nil
                 exact AllReadyIn.nil
               exact AllReadyIn.nil
             exact AllReadyIn.nil
           exact AllReadyIn.nil
         refine AllReadyIn.cons rfl (fun K hK => ?_) ?_
         · go_simp
           refine hK _ _ ?_
           clear hK K
           refine wpAnyIn_ready (rs := [0, 4]) (by kernel_rfl) (by simp) ?_
           refine AllReadyIn.cons rfl (fun K hK => ?_) ?_
           · go_simp
             refine hK _ _ ?_
             clear hK K
             refine wpAnyIn_ready (rs := [4]) (by kernel_rfl) (by simp) ?_
             refine AllReadyIn.cons rfl (fun K hK => ?_) ?_
             · go_simp
               refine hK _ _ ?_
               clear hK K
               refine wpAnyIn_ready (rs := [5]) (by kernel_rfl) (by simp) ?_
               refine AllReadyIn.cons rfl (fun K hK => ?_) ?_
               · go_simp
                 refine hK _ _ ?_
                 clear hK K
                 refine wpAnyIn_ready (rs := [6]) (by kernel_rfl) (by simp) ?_
                 refine AllReadyIn.cons rfl (fun K hK => ?_) ?_
                 · go_simp
                   refine hK _ _ ?_
                   clear hK K
                   refine wpAnyIn_ready (rs := [7]) (by kernel_rfl) (by simp) ?_
                   refine AllReadyIn.cons rfl (fun K hK => ?_) ?_
                   · go_simp
                     refine hK _ _ ?_
                     clear hK K
                     refine wpAnyIn_ready (rs := [8]) (by kernel_rfl) (by simp) ?_
                     refine AllReadyIn.cons rfl (fun K hK => ?_) ?_
                     · refine step_appendIn rfl (.tmp 33) (.tmp 40) 44 rfl rfl _ _ rfl rfl _ _ K2.out ?_
                       try go_simp
                       refine hK _ _ ?_
                       clear hK K
                       refine wpAnyIn_ready (rs := [9]) (by kernel_rfl) (by simp) ?_
                       refine AllReadyIn.cons rfl (fun K hK => ?_) ?_
                       · go_simp
                         refine hK _ _ ?_
                         clear hK K
                         refine wpAnyIn_done (by kernel_rfl) ?_ _
                         gi_wp2
                         go_roundw
                         case rel => exact ⟨t + 1, by omega, congrArg (Value.int .i64) HQ3.out, HK4.out⟩
                         case measure => simp [RowKit.intOf]; omega
                       exact AllReadyIn.nil
                     exact AllReadyIn.nil
                   exact AllReadyIn.nil
                 exact AllReadyIn.nil
               exact AllReadyIn.nil
             exact AllReadyIn.nil
           refine AllReadyIn.cons rfl (fun K hK => ?_) ?_
           · go_simp
             refine hK _ _ ?_
             clear hK K
             refine wpAnyIn_ready (rs := [0, 5]) (by kernel_rfl) (by simp) ?_
             refine AllReadyIn.cons rfl (fun K hK => ?_) ?_
             · go_simp
               refine hK _ _ ?_
               clear hK K
               refine wpAnyIn_ready (rs := [5]) (by kernel_rfl) (by simp) ?_
               refine AllReadyIn.cons rfl (fun K hK => ?_) ?_
               · go_simp
                 refine hK _ _ ?_
                 clear hK K
                 refine wpAnyIn_ready (rs := [6]) (by kernel_rfl) (by simp) ?_
                 refine AllReadyIn.cons rfl (fun K hK => ?_) ?_
                 · go_simp
                   refine hK _ _ ?_
                   clear hK K
                   refine wpAnyIn_ready (rs := [7]) (by kernel_rfl) (by simp) ?_
                   refine AllReadyIn.cons rfl (fun K hK => ?_) ?_
                   · go_simp
                     refine hK _ _ ?_
                     clear hK K
                     refine wpAnyIn_ready (rs := [8]) (by kernel_rfl) (by simp) ?_
                     refine AllReadyIn.cons rfl (fun K hK => ?_) ?_
                     · refine step_appendIn rfl (.tmp 33) (.tmp 40) 44 rfl rfl _ _ rfl rfl _ _ K2.out ?_
                       try go_simp
                       refine hK _ _ ?_
                       clear hK K
                       refine wpAnyIn_ready (rs := [9]) (by kernel_rfl) (by simp) ?_
                       refine AllReadyIn.cons rfl (fun K hK => ?_) ?_
                       · go_simp
                         refine hK _ _ ?_
                         clear hK K
                         refine wpAnyIn_done (by kernel_rfl) ?_ _
                         gi_wp2
                         go_roundw
                         case rel => exact ⟨t + 1, by omega, congrArg (Value.int .i64) HQ3.out, HK4.out⟩
                         case measure => simp [RowKit.intOf]; omega
                       exact AllReadyIn.nil
                     exact AllReadyIn.nil
                   exact AllReadyIn.nil
                 exact AllReadyIn.nil
               exact AllReadyIn.nil
             refine AllReadyIn.cons rfl (fun K hK => ?_) ?_
             · go_simp
               refine hK _ _ ?_
               clear hK K
               refine wpAnyIn_ready (rs := [0, 6]) (by kernel_rfl) (by simp) ?_
               refine AllReadyIn.cons rfl (fun K hK => ?_) ?_
               · go_simp
                 refine hK _ _ ?_
                 clear hK K
                 refine wpAnyIn_ready (rs := [6]) (by kernel_rfl) (by simp) ?_
                 refine AllReadyIn.cons rfl (fun K hK => ?_) ?_
                 · go_simp
                   refine hK _ _ ?_
                   clear hK K
                   refine wpAnyIn_ready (rs := [7]) (by kernel_rfl) (by simp) ?_
                   refine AllReadyIn.cons rfl (fun K hK => ?_) ?_
                   · go_simp
                     refine hK _ _ ?_
                     clear hK K
                     refine wpAnyIn_ready (rs := [8]) (by kernel_rfl) (by simp) ?_
                     refine AllReadyIn.cons rfl (fun K hK => ?_) ?_
                     · refine step_appendIn rfl (.tmp 33) (.tmp 40) 44 rfl rfl _ _ rfl rfl _ _ K2.out ?_
                       try go_simp
                       refine hK _ _ ?_
                       clear hK K
                       refine wpAnyIn_ready (rs := [9]) (by kernel_rfl) (by simp) ?_
                       refine AllReadyIn.cons rfl (fun K hK => ?_) ?_
                       · go_simp
                         refine hK _ _ ?_
                         clear hK K
                         refine wpAnyIn_done (by kernel_rfl) ?_ _
                         gi_wp2
                         go_roundw
                         case rel => exact ⟨t + 1, by omega, congrArg (Value.int .i64) HQ3.out, HK4.out⟩
                         case measure => simp [RowKit.intOf]; omega
                       exact AllReadyIn.nil
                     exact AllReadyIn.nil
                   exact AllReadyIn.nil
                 exact AllReadyIn.nil
               refine AllReadyIn.cons rfl (fun K hK => ?_) ?_
               · go_simp
                 refine hK _ _ ?_
                 clear hK K
                 refine wpAnyIn_ready (rs := [0, 7]) (by kernel_rfl) (by simp) ?_
                 refine AllReadyIn.cons rfl (fun K hK => ?_) ?_
                 · go_simp
                   refine hK _ _ ?_
                   clear hK K
                   refine wpAnyIn_ready (rs := [7]) (by kernel_rfl) (by simp) ?_
                   refine AllReadyIn.cons rfl (fun K hK => ?_) ?_
                   · go_simp
                     refine hK _ _ ?_
                     clear hK K
                     refine wpAnyIn_ready (rs := [8]) (by kernel_rfl) (by simp) ?_
                     refine AllReadyIn.cons rfl (fun K hK => ?_) ?_
                     · refine step_appendIn rfl (.tmp 33) (.tmp 40) 44 rfl rfl _ _ rfl rfl _ _ K2.out ?_
                       try go_simp
                       refine hK _ _ ?_
                       clear hK K
                       refine wpAnyIn_ready (rs := [9]) (by kernel_rfl) (by simp) ?_
                       refine AllReadyIn.cons rfl (fun K hK => ?_) ?_
                       · go_simp
                         refine hK _ _ ?_
                         clear hK K
                         refine wpAnyIn_done (by kernel_rfl) ?_ _
                         gi_wp2
                         go_roundw
                         case rel => exact ⟨t + 1, by omega, congrArg (Value.int .i64) HQ3.out, HK4.out⟩
                         case measure => simp [RowKit.intOf]; omega
                       exact AllReadyIn.nil
                     exact AllReadyIn.nil
                   exact AllReadyIn.nil
                 refine AllReadyIn.cons rfl (fun K hK => ?_) ?_
                 · go_simp
                   refine hK _ _ ?_
                   clear hK K
                   refine wpAnyIn_ready (rs := [0]) (by kernel_rfl) (by simp) ?_
                   refine AllReadyIn.cons rfl (fun K hK => ?_) ?_
                   · go_simp
                     refine hK _ _ ?_
                     clear hK K
                     refine wpAnyIn_ready (rs := [8]) (by kernel_rfl) (by simp) ?_
                     refine AllReadyIn.cons rfl (fun K hK => ?_) ?_
                     · refine step_appendIn rfl (.tmp 33) (.tmp 40) 44 rfl rfl _ _ rfl rfl _ _ K2.out ?_
                       try go_simp
                       refine hK _ _ ?_
                       clear hK K
                       refine wpAnyIn_ready (rs := [9]) (by kernel_rfl) (by simp) ?_
                       refine AllReadyIn.cons rfl (fun K hK => ?_) ?_
                       · go_simp
                         refine hK _ _ ?_
                         clear hK K
                         refine wpAnyIn_done (by kernel_rfl) ?_ _
                         gi_wp2
                         go_roundw
                         case rel => exact ⟨t + 1, by omega, congrArg (Value.int .i64) HQ3.out, HK4.out⟩
                         case measure => simp [RowKit.intOf]; omega
                       exact AllReadyIn.nil
                     exact AllReadyIn.nil
                   exact AllReadyIn.nil
                 exact AllReadyIn.nil
               exact AllReadyIn.nil
             exact AllReadyIn.nil
           exact AllReadyIn.nil
         exact AllReadyIn.nil
       exact AllReadyIn.nil
     exact AllReadyIn.nil
   obtain rfl : t = 4 := by omega
   have hu : unitN 4 = 0 := rfl
   rw [hu]
   obtain ⟨⟨v, bxv, ownv⟩, bkv, hbv, hkf, hki⟩ := htw.out
   rw [show (fourD g).take 4 = fourD g from rfl, ← HTS.out] at ownv
   have OV := hid ownv; have BV := hid bxv; have KV := hid bkv; have HBV := hid hbv; have HKF := hid hkf; have HKI := hid hki
   clear ownv bxv bkv hbv hkf hki hu htw
   gi_wp2
   exact ⟨HKF.out, HKI.out, ⟨⟨v, BV.out, by rw [hk2]; exact OV.out⟩, KV.out⟩, HBV.out⟩
  case done =>
   rintro V ⟨⟨⟨v, bxv, ownv⟩, bkv⟩, hbv⟩ hD
   rw [Nat.sub_self, List.drop_zero, HV.out] at ownv
   have hne : 0 < (textN x).length := List.length_pos_iff.2 (textN_ne_nil x)
   obtain ⟨q, hq⟩ : ∃ q, (textN x).length = q := ⟨_, rfl⟩
   obtain ⟨g1, c1, rfl, _, _, _, hn, _⟩ := ownv.form q hq (by omega)
   have hconv := run_convert_whole (P := Tryz.prog) V 44 5 9 Tryz.underlying44 Tryz.underlying5 Tryz.underlying9 g1 0 (byteL (textN x)) (nums_bytes hn (textN_lt x)) c1
   rw [byteL_size, hq] at hconv
   have c0 := bxv.cell
   have HD2 := hid hD; have HBV := hid hbv
   clear hD hbv ownv bxv bkv hn hq hne
   dsimp only
   gi_wp2
   refine ⟨by simp, .inl ⟨_, _, rfl, run_takeDeferred HD2.out, ?_⟩⟩
   exact ⟨_, results_tmp rfl _ _ _, rfl, below_collected HBV.out (by have := HSZ.out; have := HWS.out; omega) HD2.out _⟩
end Go.Proofs.YtcglcgphgahnpaaGreatDoor
namespace Go.Proofs.YtcglcgphgahnpaaGreatDoor
open Go Go.Proofs Go.RowKit Go.Lib
noncomputable def readG (W : World) (v : Value) : Nat := match v with
 | .slice (some ⟨g, o, none⟩) n _ => valG ((List.range n).map fun j => match W.cell? ⟨g, o + j, none⟩ with | some (.int _ q) => q.toNat | _ => 0)
 | _ => 0
theorem readG_nat {W : World} {ad : Option Addr} {m c n : Nat} (h : NatAt W ad m c n) : readG W (.slice ad m c) = n := by
 obtain ⟨hm, _, _, h3⟩ := h
 have hv := valG_grps n
 generalize grps n = l at *
 rcases h3 with rfl | ⟨g, o, rfl, _, hn⟩
 · simp at hm; subst hm
   rw [← hv]
   cases ad with
   | none => rfl
   | some p => obtain ⟨b, o, q⟩ := p; cases q <;> simp [readG, valG]
 unfold readG
 simp only
 have : (List.range m).map (fun j => match W.cell? ⟨g, o + j, none⟩ with | some (.int _ q) => q.toNat | _ => 0) = l := by
  apply List.ext_getElem
  · simp [hm]
  intro i h1 h2
  have := hn i h2
  simp [this, List.getD_eq_getElem?_getD, h2]
 rw [this, hv]
theorem gcd_any3 (x y : Nat) (ad1 ad2 : Option Addr) (c1 c2 n1 n2 : Nat) (w : World) (h1 : NatAt w ad1 n1 c1 x) (h2 : NatAt w ad2 n2 c2 y) (hn1 : n1 ≤ 900) (hn2 : n2 ≤ 900) (hR : Ready w) :
 Calls Tryz.prog 154 #[.slice ad1 n1 c1, .slice ad2 n2 c2] w (NatPost w (Nat.gcd x y)) := by
 obtain ⟨R, hRd⟩ : ∃ R, Nat.gcd x y = R := ⟨_, rfl⟩
 rw [hRd]
 have H1 := hid h1; have H2 := hid h2; have HR := hid hR; have HRD := hid hRd
 clear h1 h2 hR hRd
 go_enter Tryz.func154, Tryz.ntmps154
 go_wp2_with fail
 go_loopw [0, 1] (fun va vb wr => ∃ (a b : Nat) (ad1 ad2 : Option Addr) (c1 c2 m1 m2 : Nat), va = .slice ad1 m1 c1 ∧ vb = .slice ad2 m2 c2 ∧ Hid (NatAt wr ad1 m1 c1 a) ∧ Hid (NatAt wr ad2 m2 c2 b) ∧ m1 ≤ 900 ∧ m2 ≤ 900 ∧ Hid (Nat.gcd a b = R) ∧ Hid (Below w.heap.size w wr)) (fun _ vb wr => readG wr vb)
 case atStart => exact ⟨x, y, ad1, ad2, c1, c2, n1, n2, rfl, rfl, H1.out, H2.out, hn1, hn2, HRD.out, Below.refl _ _⟩
 obtain ⟨a, b, d1, d2, k1, k2, m1, m2, rfl, rfl, ha, hb, hm1, hm2, hg, hbr⟩ := hrel
 by_cases h4 : 4 < m2
 · have h4i : (4 : Int) < (m2 : Int) := by omega
   have hb0 : 0 < b := by
    rcases Nat.eq_zero_or_pos b with h | h
    · subst h; have := hb.out.1; rw [grps_zero] at this; simp at this; omega
    exact h
   have cd := divide_any a b hb0 d1 d2 k1 k2 m1 m2 wr ha.out hb.out hm1 hm2
   have hrb : a % b < b := Nat.mod_lt _ hb0
   have hgn : Nat.gcd b (a % b) = R := by rw [← hg.out, Nat.gcd_comm a b, Nat.gcd_rec b a, Nat.gcd_comm]
   have hmr := readG_nat hb.out
   obtain ⟨r, hr⟩ : ∃ r, a % b = r := ⟨_, rfl⟩
   rw [hr] at cd hrb hgn
   have CD := hid cd; have HGN := hid hgn; have HMR := hid hmr
   clear cd hgn hmr hg hr ha
   go_wp2_with fail
   refine CD.out.mono ?_
   rintro e w1 ⟨a1, q1, s1, a2, q2, s2, rfl, _, hn2, b1⟩
   have hbn := hb.out.below b1 (Nat.le_refl _)
   have hs2 : s2 ≤ 900 := by
    have h1 := hn2.1
    have h2 := hb.out.1
    have := grps_length_le m2 r (Nat.lt_trans hrb ((grps_length_iff m2 b).1 (by rw [h2]; exact Nat.le_refl _)))
    omega
   have hmr2 := readG_nat hn2
   have HN2 := hid hn2; have HBN := hid hbn; have HB1 := hid (below_of hbr.out b1); have HMR2 := hid hmr2
   clear hn2 hbn b1 hb hbr hmr2 CD
   go_wp2_with fail
   go_roundw
   case rel => exact ⟨b, r, d2, a2, k2, q2, m2, s2, rfl, rfl, HBN.out, HN2.out, hm2, hs2, HGN.out, HB1.out⟩
   case measure => rw [HMR.out, HMR2.out]; exact hrb
 have h4i : ¬ (4 : Int) < (m2 : Int) := by omega
 by_cases hz : m2 = 0
 · subst hz
   have hb0 : b = 0 := by
    rcases Nat.eq_zero_or_pos b with h | h
    · exact h
    have := hb.out.1; rw [grps_pos (by omega)] at this; simp at this
   subst hb0
   have hgr : a = R := by rw [← hg.out, Nat.gcd_zero_right]
   subst hgr
   clear hb hg
   go_wp2_with fail
   go_ret
   exact ⟨d1, k1, m1, rfl, ha.out.1, ha.out.2, hbr.out⟩
 have hzi : ((m2 : Int) == 0) = false := by rw [beq_eq_false_iff_ne]; omega
 have hb0 : 0 < b := by
  rcases Nat.eq_zero_or_pos b with h | h
  · subst h; have := hb.out.1; rw [grps_zero] at this; simp at this; omega
  exact h
 have cd := divide_any a b hb0 d1 d2 k1 k2 m1 m2 wr ha.out hb.out hm1 hm2
 have hrb : a % b < b := Nat.mod_lt _ hb0
 have hgn : Nat.gcd b (a % b) = R := by rw [← hg.out, Nat.gcd_comm a b, Nat.gcd_rec b a, Nat.gcd_comm]
 have hb16 : b < 10000000000000000 := word_lt (by rw [hb.out.1]; omega)
 obtain ⟨r, hr⟩ : ∃ r, a % b = r := ⟨_, rfl⟩
 rw [hr] at cd hrb hgn
 have CD := hid cd; have HGN := hid hgn
 clear cd hgn hg hr ha
 go_wp2_with fail
 refine CD.out.mono ?_
 rintro e w1 ⟨a1, q1, s1, a2, q2, s2, rfl, _, hn2, b1⟩
 have hbn := hb.out.below b1 (Nat.le_refl _)
 have hs2 : s2 ≤ 4 := by
  have h1 := hn2.1
  have h2 := hb.out.1
  have := grps_length_le m2 r (Nat.lt_trans hrb ((grps_length_iff m2 b).1 (by rw [h2]; exact Nat.le_refl _)))
  omega
 have cw1 := word_any b d2 k2 m2 w1 hbn (by omega)
 have cw2 := fun W (bb : Below w1.heap.size w1 W) => word_any r a2 q2 s2 W (hn2.below bb (Nat.le_refl _)) hs2
 have CW1 := hid cw1; have CW2 := hid cw2; have HB1 := hid (below_of hbr.out b1)
 clear cw1 cw2 hn2 hbn b1 hb hbr CD
 go_wp2_with fail
 refine CW1.out.mono ?_
 rintro e w2 ⟨rfl, b2⟩
 have cw2 := CW2.out w2 b2
 have HC2 := hid cw2; have HB2 := hid (below_of HB1.out b2)
 clear cw2 b2 HB1 CW2 CW1
 go_wp2_with fail
 refine HC2.out.mono ?_
 rintro e w3 ⟨rfl, b3⟩
 have HB3 := hid (below_of HB2.out b3)
 clear b3 HB2 HC2
 go_wp2_with fail
 go_loopw [9, 10] (fun va vb wr => ∃ (p q k : Nat), va = .int .i64 (p : Int) ∧ vb = .int .i64 (q : Int) ∧ p < 10000000000000000 ∧ q < 10000000000000000 ∧ Hid (Nat.gcd p q = R) ∧ wr = w3.drewN k) (fun _ vb _ => (RowKit.intOf vb).toNat)
 case atStart => exact ⟨b, r, 0, rfl, rfl, hb16, by omega, HGN.out, rfl⟩
 obtain ⟨p, q, k, rfl, rfl, hp, hq, hgpq, rfl⟩ := hrel
 by_cases hq0 : q = 0
 · subst hq0
   have hpR : p = R := by rw [← hgpq.out, Nat.gcd_zero_right]
   subst hpR
   have hb9 : Below w.heap.size w (w3.drewN k) := below_drewN HB3.out k
   have hrd : Ready (w3.drewN k) := HR.out.below hb9
   have ci := strconv_Itoa (p : Int) (by omega) (by omega) (w3.drewN k) hrd
   rw [itoa_textI] at ci
   have hti : textI (p : Int) = byteL (textN p) := by unfold textI; rw [if_neg (by omega), Int.natAbs_natCast]; rfl
   have hbt : bytesL (byteL (textN p)) = textN p := bytesL_byteL (textN_lt p)
   have hv : valD (digT (textN p)) = p := (textN_plain (Nat.lt_trans hp (by decide))).2
   have hsz : (byteL (textN p)).size ≤ 1000 := by
    rw [byteL_size]
    have := textN_len_le (n := p) (c := 4) (by simpa using hp)
    omega
   have cn := fun W => naturalOf_any (byteL (textN p)) (by rw [hbt]; exact textN_dig p) hsz W
   rw [hbt, hv] at cn
   rw [hti] at ci
   obtain ⟨T, hT⟩ : ∃ T, byteL (textN p) = T := ⟨_, rfl⟩
   rw [hT] at ci cn
   have CI := hid ci; have CN := hid cn; have HB9 := hid hb9
   clear ci cn hb9 hrd hti hbt hv hsz hT hgpq
   go_wp2_with fail
   refine CI.out.mono ?_
   rintro e w4 ⟨rfl, kk, os, rfl⟩
   have hb10 := below_of HB9.out (Lib.below_grow _ _ (Nat.le_refl _) kk os)
   have hb11 : Below w.heap.size w («Sort».grow (w3.drewN (k + kk)) os) := by simpa using hb10
   have HB10 := hid hb11
   clear hb10 hb11
   go_wp2_with fail
   refine (CN.out _).mono ?_
   rintro e w5 hpost
   have HP := hid (hpost.on HB10.out)
   obtain ⟨a9, c9, m9, rfl, hm9, hh9⟩ := hpost
   clear hh9
   go_wp2_with fail
   go_ret
   exact HP.out
 have hqi : (0 : Int) < (q : Int) := by omega
 have hqn : (q : Int) ≠ 0 := by omega
 have hrem : Int.tmod (p : Int) (q : Int) = ((p % q : Nat) : Int) := by rw [Int.tmod_eq_emod_of_nonneg (by omega)]; omega
 have hmq : p % q < q := Nat.mod_lt _ (by omega)
 have hgn : Nat.gcd q (p % q) = R := by rw [← hgpq.out, Nat.gcd_comm p q, Nat.gcd_rec q p, Nat.gcd_comm]
 obtain ⟨rr, hrr⟩ : ∃ r, p % q = r := ⟨_, rfl⟩
 rw [hrr] at hrem hmq hgn
 have hwr : IntKind.i64.wrap (rr : Int) = (rr : Int) := IntWalk.i64_in _ (by omega)
 have HGN2 := hid hgn
 clear hgn hrr hgpq
 go_wp2_with fail
 go_quiet (fail)
 go_wp2
 go_roundw
 case rel => exact ⟨q, rr, k + nq, rfl, rfl, hq, by omega, HGN2.out, by simp⟩
 case measure => simp [RowKit.intOf]; omega
end Go.Proofs.YtcglcgphgahnpaaGreatDoor
namespace Go.Proofs.YtcglcgphgahnpaaGreatDoor
open Go Go.Proofs Go.RowKit Go.Lib
theorem minus_textI (x : Int) : minusB (textI x) = decide (x < 0) ∧ behindB (textI x) = byteL (textN x.natAbs) := by
 by_cases hx : x < 0
 · have e : textI x = byteL (45 :: textN x.natAbs) := by unfold textI; rw [if_pos hx]; rfl
   have hl : bytesL (byteL (45 :: textN x.natAbs)) = 45 :: textN x.natAbs := by rw [← e, bytesL_textI, if_pos hx]; rfl
   have hm : minusB (textI x) = true := by unfold minusB; rw [e, hl]; rfl
   refine ⟨by rw [hm, decide_eq_true hx], ?_⟩
   rw [behind_true hm, e, extract_one]
 have e : textI x = byteL (textN x.natAbs) := by unfold textI; rw [if_neg hx]; rfl
 have hl : bytesL (byteL (textN x.natAbs)) = textN x.natAbs := bytesL_byteL (textN_lt _)
 have hm : minusB (textI x) = false := by
  unfold minusB
  rw [e, hl, decide_eq_false_iff_not]
  intro h
  have hmem : 45 ∈ textN x.natAbs := by
   cases h2 : textN x.natAbs with
   | nil => rw [h2] at h; cases h
   | cons a l => rw [h2] at h; simp at h; subst h; simp
  have := textN_dig _ _ hmem
  omega
 refine ⟨by rw [hm, decide_eq_false hx], ?_⟩
 rw [behind_false hm, e]
theorem valid_behind {s : ByteArray} (h : validB s = true) : minusB s = decide (numB s < 0) ∧ behindB s = byteL (textN (numB s).natAbs) := by
 have e := text_valid h
 have := minus_textI (numB s)
 rw [← e.2] at this
 exact this
theorem bcell {W w1 : World} (hb : Below W.heap.size W w1) : (∀ b o, b < W.heap.size → w1.cell? ⟨b, o, none⟩ = W.cell? ⟨b, o, none⟩) ∧ (∀ b o, b < W.heap.size → w1.frozen? ⟨b, o, none⟩ = W.frozen? ⟨b, o, none⟩) :=
 ⟨fun b o h => hb.cell (p := ⟨b, o, none⟩) h, fun b o h => hb.frozen (p := ⟨b, o, none⟩) h⟩
theorem apart_num {W : World} {ad a' : Option Addr} {m c n m' c' B : Nat} {b : Bool} {t : TypeId} (h : NatAt W ad m c n) (hB : W.heap[B]? = some (.cells #[.bool b, .slice a' m' c'] t)) : Apart ad m B := by
 by_cases hm : m = 0
 · exact .inl hm
 right
 rintro p rfl
 obtain ⟨e1, h2⟩ := h
 obtain ⟨g, o, e, hg, hs⟩ := h2.at (by omega)
 cases e
 show g ≠ B
 rintro rfl
 have h0 := hs 0 (by omega)
 rw [Nat.add_zero] at h0
 have hcell : ∀ o, W.cell? ⟨g, o, none⟩ = #[Value.bool b, Value.slice a' m' c'][o]? := fun o => by simp [World.cell?, hB]
 rw [hcell] at h0
 match o, h0 with
 | 0, h0 => simp at h0
 | 1, h0 => simp at h0
 | o + 2, h0 => simp at h0
theorem num_kept {w w2 : World} {b : Bool} {a' : Option Addr} {m' c' : Nat} {t : TypeId} {B : Nat} (hB : w.heap[B]? = some (.cells #[.bool b, .slice a' m' c'] t)) (hb : Below w.heap.size w w2) : w2.heap[B]? = some (.cells #[.bool b, .slice a' m' c'] t) :=
 (hb.block B (Array.getElem?_eq_some_iff.1 hB).1).trans hB
def NumPost (w : World) (x : Int) (e : Ending) (w' : World) : Prop :=
 ∃ neg N ad m cap, e = .returned (.agg #[.bool neg, .slice ad m cap]) ∧ intD neg N = x ∧ NatAt w' ad m cap N ∧ Below w.heap.size w w'
theorem num_cells {W : World} {B : Nat} {b : Bool} {a : Option Addr} {m c : Nat} {t : TypeId} (h : W.heap[B]? = some (.cells #[.bool b, .slice a m c] t)) :
 W.cell? ⟨B, 0, none⟩ = some (.bool b) ∧ W.cell? ⟨B, 1, none⟩ = some (.slice a m c) ∧ W.frozen? ⟨B, 0, none⟩ = false ∧ W.frozen? ⟨B, 1, none⟩ = false := by
 simp [World.cell?, World.frozen?, h]
theorem num_frame (w : World) (b1 b2 : Bool) (a1 a2 : Option Addr) (m1 m2 c1 c2 : Nat) : ∃ W0, ((w.alloc (.cells #[.bool b1, .slice a1 m1 c1] 121)).alloc (.cells #[.bool b2, .slice a2 m2 c2] 121)).alloc (.cells #[.bool false, .slice none 0 0] 121) = W0 ∧
 Below w.heap.size w W0 ∧ W0.heap[w.heap.size]? = some (.cells #[.bool b1, .slice a1 m1 c1] 121) ∧ W0.heap[w.heap.size + 1]? = some (.cells #[.bool b2, .slice a2 m2 c2] 121) ∧ W0.heap[w.heap.size + 2]? = some (.cells #[.bool false, .slice none 0 0] 121) := by
 refine ⟨_, rfl, (((Below.refl _ _).alloc (Nat.le_refl _) _).alloc (by simp) _).alloc (by simp; omega) _, ?_, ?_, ?_⟩
 · rw [Below.heap_alloc _ _ _ (by simp; omega), Below.heap_alloc _ _ _ (by simp)]
   exact heap_alloc_new _ _
 · rw [Below.heap_alloc _ _ _ (by simp)]
   have := heap_alloc_new (w.alloc (.cells #[.bool b1, .slice a1 m1 c1] 121)) (.cells #[.bool b2, .slice a2 m2 c2] 121)
   rw [World.size_alloc] at this
   exact this
 have := heap_alloc_new ((w.alloc (.cells #[.bool b1, .slice a1 m1 c1] 121)).alloc (.cells #[.bool b2, .slice a2 m2 c2] 121)) (.cells #[.bool false, .slice none 0 0] 121)
 rw [World.size_alloc, World.size_alloc] at this
 exact this
theorem num_done {w W0 W : World} {R : Nat} {t : TypeId} (b0 : Below w.heap.size w W0) (hR : W0.heap[R]? = some (.cells #[.bool false, .slice none 0 0] t)) (hn : w.heap.size ≤ R) (b : Below W0.heap.size W0 W) {ad : Option Addr} {m c n : Nat} (h : NatAt W ad m c n) (x y : Value) :
 NatAt ((W.setCell ⟨R, 0, none⟩ x).setCell ⟨R, 1, none⟩ y) ad m c n ∧ Below w.heap.size w ((W.setCell ⟨R, 0, none⟩ x).setCell ⟨R, 1, none⟩ y) := by
 have ha := apart_num h (num_kept hR b)
 exact ⟨(h.store ha 0 _).store ha 1 _, ((below_of b0 b).setCell (p := ⟨R, 0, none⟩) hn _).setCell (p := ⟨R, 1, none⟩) hn _⟩
theorem numberOf_any (s : ByteArray) (hv : validB s = true) (w : World) :
 Calls Tryz.prog 109 #[.string s] w fun e w' => ∃ ad m cap, e = .returned (.agg #[.bool (decide (numB s < 0)), .slice ad m cap]) ∧ NatAt w' ad m cap (numB s).natAbs ∧ Below w.heap.size w w' := by
 obtain ⟨h1, h2⟩ := valid_behind hv
 have hfit := (text_valid hv).1
 have hs9 := fits_size hfit
 rw [← (text_valid hv).2] at hs9
 have hlb : bytesL (byteL (textN (numB s).natAbs)) = textN (numB s).natAbs := bytesL_byteL (textN_lt _)
 have cc := fun w => cut_any s (by omega) w
 rw [h1, h2] at cc
 have hlen : (byteL (textN (numB s).natAbs)).size ≤ 1000 := by
  have h3 : (textI (numB s)).size ≤ 1000 := fits_size hfit
  unfold textI at h3
  rw [byteL_size, List.length_append] at h3
  rw [byteL_size]
  omega
 have cn := fun W => naturalOf_any (byteL (textN (numB s).natAbs)) (by rw [hlb]; exact textN_dig _) hlen W
 rw [hlb, (textN_plain hfit).2] at cn
 obtain ⟨N, hN⟩ : ∃ N, (numB s).natAbs = N := ⟨_, rfl⟩
 obtain ⟨T, hT⟩ : ∃ T, byteL (textN N) = T := ⟨_, rfl⟩
 obtain ⟨B, hB⟩ : ∃ B, decide (numB s < 0) = B := ⟨_, rfl⟩
 rw [hN] at cn cc
 rw [hT] at cn cc
 rw [hB] at cc
 rw [hN, hB]
 have CC := hid cc; have CN := hid cn
 clear cc cn hlen hlb hs9 hfit h1 h2 hN hT hB
 go_enter Tryz.func109, Tryz.ntmps109
 go_wp2_with fail
 refine (CC.out _).mono ?_
 rintro e w1 ⟨rfl, rfl⟩
 go_wp2_with fail
 refine (CN.out _).mono ?_
 rintro e w2 ⟨ad, cap, m, rfl, hm, hh, hb⟩
 obtain ⟨hc, hf⟩ := bcell hb
 have hz : w.heap.size < w2.heap.size := by have := hb.size; simp at this; omega
 have HH := hid hh; have HB := hid hb
 clear hh hb
 go_wp2_with fail
 have hN2 := num_kept (B := w.heap.size) (heap_alloc_new w (.cells #[.bool false, .slice none 0 0] 121)) HB.out
 have hna : NatAt w2 ad m cap N := ⟨hm, HH.out⟩
 have hap := apart_num hna hN2
 refine bodyPost_ret (v := .agg #[.bool B, .slice ad m cap]) (by simp [results, Tryz.results109, go_sem, hc]) rfl ⟨ad, m, cap, rfl, (hna.store hap 0 _).store hap 1 _, ?_⟩
 exact ((((Below.refl _ w).alloc (Nat.le_refl _) _).trans (HB.out.mono (by simp))).setCell (p := ⟨w.heap.size, 0, none⟩) (Nat.le_refl _) _).setCell (p := ⟨w.heap.size, 1, none⟩) (Nat.le_refl _) _
end Go.Proofs.YtcglcgphgahnpaaGreatDoor
namespace Go.Proofs.YtcglcgphgahnpaaGreatDoor
open Go Go.Proofs Go.RowKit Go.Lib
theorem gcdN_any (b1 b2 : Bool) (N1 N2 : Nat) (a1 a2 : Option Addr) (m1 m2 c1 c2 : Nat) (w : World) (h1 : NatAt w a1 m1 c1 N1) (h2 : NatAt w a2 m2 c2 N2) (l1 : m1 ≤ 900) (l2 : m2 ≤ 900) (hR : Ready w) :
 Calls Tryz.prog 137 #[.agg #[.bool b1, .slice a1 m1 c1], .agg #[.bool b2, .slice a2 m2 c2]] w (NumPost w ((Nat.gcd N1 N2 : Nat) : Int)) := by
 obtain ⟨W0, hW0, hb0, k1, k2, kR⟩ := num_frame w b1 b2 a1 a2 m1 m2 c1 c2
 have cg := gcd_any3 N1 N2 a1 a2 c1 c2 m1 m2 W0 (h1.below hb0 (Nat.le_refl _)) (h2.below hb0 (Nat.le_refl _)) l1 l2 (hR.below hb0)
 obtain ⟨G, hG⟩ : ∃ G, Nat.gcd N1 N2 = G := ⟨_, rfl⟩
 rw [hG] at cg ⊢
 have CG := hid cg
 have hall := fun W (b : Below W0.heap.size W0 W) => And.intro (num_cells (num_kept k1 b)) (num_cells (num_kept k2 b))
 have HALL := hid hall
 have HW := hid hW0; have HB0 := hid hb0; have KR := hid kR
 obtain ⟨⟨p1, p2, _, _⟩, ⟨p3, p4, _, _⟩⟩ := hall W0 (Below.refl _ _)
 clear cg hb0 k1 k2 kR h1 h2 hG hW0 hall
 go_enter Tryz.func137, Tryz.ntmps137
 go_wp2_with (rw [HW.out])
 refine CG.out.mono ?_
 rintro e w5 ⟨ad, cap, m, rfl, hm, hh, hb⟩
 obtain ⟨q1, q2, q3, q4⟩ := num_cells (num_kept KR.out hb)
 have HN := hid (show NatAt w5 ad m cap _ from ⟨hm, hh⟩); have HB := hid hb
 clear hm hh hb
 clear CG
 go_wp2_with fail
 obtain ⟨d1, d2⟩ := num_done HB0.out KR.out (by omega) HB.out HN.out (.bool false) (.slice ad m cap)
 exact bodyPost_ret (v := .agg #[.bool false, .slice ad m cap]) (by simp [results, Tryz.results137, go_sem, q1, q2]) rfl ⟨false, G, ad, m, cap, rfl, rfl, d1, d2⟩
theorem timesN_any (b1 b2 : Bool) (N1 N2 : Nat) (a1 a2 : Option Addr) (m1 m2 c1 c2 : Nat) (w : World) (h1 : NatAt w a1 m1 c1 N1) (h2 : NatAt w a2 m2 c2 N2) (l1 : m1 + m2 ≤ 900) :
 Calls Tryz.prog 145 #[.agg #[.bool b1, .slice a1 m1 c1], .agg #[.bool b2, .slice a2 m2 c2]] w (NumPost w (intD b1 N1 * intD b2 N2)) := by
 obtain ⟨W0, hW0, hb0, k1, k2, kR⟩ := num_frame w b1 b2 a1 a2 m1 m2 c1 c2
 have cg := fun W (b : Below W0.heap.size W0 W) => times_any3 N1 N2 a1 a2 c1 c2 m1 m2 W ((h1.below hb0 (Nat.le_refl _)).below b (Nat.le_refl _)) ((h2.below hb0 (Nat.le_refl _)).below b (Nat.le_refl _)) l1
 have he := intD_mul b1 b2 N1 N2
 obtain ⟨G, hG⟩ : ∃ G, N1 * N2 = G := ⟨_, rfl⟩
 rw [hG] at cg he
 rw [← he]
 have CG := hid cg
 have hall := fun W (b : Below W0.heap.size W0 W) => And.intro (num_cells (num_kept k1 b)) (num_cells (num_kept k2 b))
 have HALL := hid hall
 have HW := hid hW0; have HB0 := hid hb0; have KR := hid kR
 obtain ⟨⟨p1, p2, _, _⟩, ⟨p3, p4, _, _⟩⟩ := hall W0 (Below.refl _ _)
 have HC4 := hid (fun W b => show (W.cell? ⟨w.heap.size, 0, none⟩ = some (.bool b1) ∧ W.cell? ⟨w.heap.size, 1, none⟩ = some (.slice a1 m1 c1)) ∧ (W.cell? ⟨w.heap.size + 1, 0, none⟩ = some (.bool b2) ∧ W.cell? ⟨w.heap.size + 1, 1, none⟩ = some (.slice a2 m2 c2)) from ⟨⟨(HALL.out W b).1.1, (HALL.out W b).1.2.1⟩, ⟨(HALL.out W b).2.1, (HALL.out W b).2.2.1⟩⟩)
 clear cg hb0 k1 k2 kR h1 h2 hG hW0 hall p1 p2 p3 p4 he
 go_enter Tryz.func145, Tryz.ntmps145
 go_wp2_with fail
 rw [HW.out]
 go_region_held3 (fun W => (W.cell? ⟨w.heap.size, 0, none⟩ = some (.bool b1) ∧ W.cell? ⟨w.heap.size, 1, none⟩ = some (.slice a1 m1 c1)) ∧ (W.cell? ⟨w.heap.size + 1, 0, none⟩ = some (.bool b2) ∧ W.cell? ⟨w.heap.size + 1, 1, none⟩ = some (.slice a2 m2 c2)))
  (first | exact HC4.out _ ⟨rfl, rfl, rfl, Nat.le_refl _, fun _ _ => rfl⟩ | exact HC4.out _ hb | (obtain ⟨⟨e1, e2⟩, ⟨e3, e4⟩⟩ := HC4.out _ hb; simp [go_sem, e1, e2, e3, e4]))
  ((go_at_call 161; (with_reducible refine (CG.out _ ?_).mono ?_); exact ⟨rfl, rfl, rfl, Nat.le_refl _, fun _ _ => rfl⟩; (rintro e w5 ⟨ad, cap, m, rfl, hm, hh, hb'⟩); have hb : Below W0.heap.size W0 w5 := ⟨hb'.os, hb'.tape, hb'.output, hb'.size, hb'.block⟩; obtain ⟨q1, q2, q3, q4⟩ := num_cells (num_kept KR.out hb)))
 all_goals (
  obtain ⟨q1, q2, q3, q4⟩ := num_cells (num_kept KR.out hb)
  have HN := hid (show NatAt w5 ad m cap _ from ⟨hm, hh⟩); have HB := hid hb
  clear hm hh hb
  go_wp2
  obtain ⟨d1, d2⟩ := num_done HB0.out KR.out (by omega) HB.out HN.out (.bool (b1 != b2)) (.slice ad m cap)
  exact bodyPost_ret (v := .agg #[.bool (b1 != b2), .slice ad m cap]) (by simp [results, Tryz.results145, go_sem, q1, q2]; cases b1 <;> cases b2 <;> rfl) rfl ⟨(b1 != b2), G, ad, m, cap, rfl, rfl, d1, d2⟩)
theorem plus_PP (N1 N2 : Nat) (a1 a2 : Option Addr) (m1 m2 c1 c2 : Nat) (w : World) (h1 : NatAt w a1 m1 c1 N1) (h2 : NatAt w a2 m2 c2 N2) (l1 : m1 ≤ 900) (l2 : m2 ≤ 900) :
 Calls Tryz.prog 122 #[.agg #[.bool false, .slice a1 m1 c1], .agg #[.bool false, .slice a2 m2 c2]] w (NumPost w (intD false N1 + intD false N2)) := by
 obtain ⟨W0, hW0, hb0, k1, k2, kR⟩ := num_frame w false false a1 a2 m1 m2 c1 c2
 have cg := fun W (b : Below W0.heap.size W0 W) => plus_any3 N1 N2 (N1 + N2) (1) (by omega) (by omega) (by omega) a1 a2 c1 c2 m1 m2 W ((h1.below hb0 (Nat.le_refl _)).below b (Nat.le_refl _)) ((h2.below hb0 (Nat.le_refl _)).below b (Nat.le_refl _)) (by omega) (by omega)
 have he : intD false (N1 + N2) = intD false N1 + intD false N2 := by simp [intD] <;> omega
 obtain ⟨G, hG⟩ : ∃ G, N1 + N2 = G := ⟨_, rfl⟩
 rw [hG] at cg he
 rw [← he]
 have CG := hid cg
 have hall := fun W (b : Below W0.heap.size W0 W) => And.intro (num_cells (num_kept k1 b)) (num_cells (num_kept k2 b))
 have HALL := hid hall
 have HW := hid hW0; have HB0 := hid hb0; have KR := hid kR
 obtain ⟨⟨p1, p2, _, _⟩, ⟨p3, p4, _, _⟩⟩ := hall W0 (Below.refl _ _)
 have HC4 := hid (fun W b => show (W.cell? ⟨w.heap.size, 0, none⟩ = some (.bool false) ∧ W.cell? ⟨w.heap.size, 1, none⟩ = some (.slice a1 m1 c1)) ∧ (W.cell? ⟨w.heap.size + 1, 0, none⟩ = some (.bool false) ∧ W.cell? ⟨w.heap.size + 1, 1, none⟩ = some (.slice a2 m2 c2)) from ⟨⟨(HALL.out W b).1.1, (HALL.out W b).1.2.1⟩, ⟨(HALL.out W b).2.1, (HALL.out W b).2.2.1⟩⟩)
 clear cg hb0 k1 k2 kR h1 h2 hG hW0 hall he
 go_enter Tryz.func122, Tryz.ntmps122
 go_wp2_with (rw [HW.out])
 go_region_held3 (fun W => (W.cell? ⟨w.heap.size, 0, none⟩ = some (.bool false) ∧ W.cell? ⟨w.heap.size, 1, none⟩ = some (.slice a1 m1 c1)) ∧ (W.cell? ⟨w.heap.size + 1, 0, none⟩ = some (.bool false) ∧ W.cell? ⟨w.heap.size + 1, 1, none⟩ = some (.slice a2 m2 c2)))
  (first | exact HC4.out _ ⟨rfl, rfl, rfl, Nat.le_refl _, fun _ _ => rfl⟩ | exact HC4.out _ hb | (obtain ⟨⟨e1, e2⟩, ⟨e3, e4⟩⟩ := HC4.out _ hb; simp [go_sem, e1, e2, e3, e4]))
  ((go_at_call 140; (with_reducible refine (CG.out _ ?_).mono ?_); exact ⟨rfl, rfl, rfl, Nat.le_refl _, fun _ _ => rfl⟩; (rintro e w5 ⟨ad, cap, m, rfl, hm, hh, hb'⟩); have hb : Below W0.heap.size W0 w5 := ⟨hb'.os, hb'.tape, hb'.output, hb'.size, hb'.block⟩; obtain ⟨q1, q2, q3, q4⟩ := num_cells (num_kept KR.out hb)))
 all_goals (
  obtain ⟨q1, q2, q3, q4⟩ := num_cells (num_kept KR.out hb)
  have HN := hid (show NatAt w5 ad m cap _ from ⟨hm, hh⟩); have HB := hid hb
  clear hm hh hb
  go_wp2
  obtain ⟨d1, d2⟩ := num_done HB0.out KR.out (by omega) HB.out HN.out (.bool false) (.slice ad m cap)
  exact bodyPost_ret (v := .agg #[.bool false, .slice ad m cap]) (by simp [results, Tryz.results122, go_sem, q1, q2]) rfl ⟨false, G, ad, m, cap, rfl, rfl, d1, d2⟩)
theorem plus_MM (N1 N2 : Nat) (a1 a2 : Option Addr) (m1 m2 c1 c2 : Nat) (w : World) (h1 : NatAt w a1 m1 c1 N1) (h2 : NatAt w a2 m2 c2 N2) (l1 : m1 ≤ 900) (l2 : m2 ≤ 900) :
 Calls Tryz.prog 122 #[.agg #[.bool true, .slice a1 m1 c1], .agg #[.bool true, .slice a2 m2 c2]] w (NumPost w (intD true N1 + intD true N2)) := by
 obtain ⟨W0, hW0, hb0, k1, k2, kR⟩ := num_frame w true true a1 a2 m1 m2 c1 c2
 have cg := fun W (b : Below W0.heap.size W0 W) => plus_any3 N1 N2 (N1 + N2) (1) (by omega) (by omega) (by omega) a1 a2 c1 c2 m1 m2 W ((h1.below hb0 (Nat.le_refl _)).below b (Nat.le_refl _)) ((h2.below hb0 (Nat.le_refl _)).below b (Nat.le_refl _)) (by omega) (by omega)
 have he : intD true (N1 + N2) = intD true N1 + intD true N2 := by simp [intD] <;> omega
 obtain ⟨G, hG⟩ : ∃ G, N1 + N2 = G := ⟨_, rfl⟩
 rw [hG] at cg he
 rw [← he]
 have CG := hid cg
 have hall := fun W (b : Below W0.heap.size W0 W) => And.intro (num_cells (num_kept k1 b)) (num_cells (num_kept k2 b))
 have HALL := hid hall
 have HW := hid hW0; have HB0 := hid hb0; have KR := hid kR
 obtain ⟨⟨p1, p2, _, _⟩, ⟨p3, p4, _, _⟩⟩ := hall W0 (Below.refl _ _)
 have HC4 := hid (fun W b => show (W.cell? ⟨w.heap.size, 0, none⟩ = some (.bool true) ∧ W.cell? ⟨w.heap.size, 1, none⟩ = some (.slice a1 m1 c1)) ∧ (W.cell? ⟨w.heap.size + 1, 0, none⟩ = some (.bool true) ∧ W.cell? ⟨w.heap.size + 1, 1, none⟩ = some (.slice a2 m2 c2)) from ⟨⟨(HALL.out W b).1.1, (HALL.out W b).1.2.1⟩, ⟨(HALL.out W b).2.1, (HALL.out W b).2.2.1⟩⟩)
 clear cg hb0 k1 k2 kR h1 h2 hG hW0 hall he
 go_enter Tryz.func122, Tryz.ntmps122
 go_wp2_with (rw [HW.out])
 go_region_held3 (fun W => (W.cell? ⟨w.heap.size, 0, none⟩ = some (.bool true) ∧ W.cell? ⟨w.heap.size, 1, none⟩ = some (.slice a1 m1 c1)) ∧ (W.cell? ⟨w.heap.size + 1, 0, none⟩ = some (.bool true) ∧ W.cell? ⟨w.heap.size + 1, 1, none⟩ = some (.slice a2 m2 c2)))
  (first | exact HC4.out _ ⟨rfl, rfl, rfl, Nat.le_refl _, fun _ _ => rfl⟩ | exact HC4.out _ hb | (obtain ⟨⟨e1, e2⟩, ⟨e3, e4⟩⟩ := HC4.out _ hb; simp [go_sem, e1, e2, e3, e4]))
  ((go_at_call 140; (with_reducible refine (CG.out _ ?_).mono ?_); exact ⟨rfl, rfl, rfl, Nat.le_refl _, fun _ _ => rfl⟩; (rintro e w5 ⟨ad, cap, m, rfl, hm, hh, hb'⟩); have hb : Below W0.heap.size W0 w5 := ⟨hb'.os, hb'.tape, hb'.output, hb'.size, hb'.block⟩; obtain ⟨q1, q2, q3, q4⟩ := num_cells (num_kept KR.out hb)))
 all_goals (
  obtain ⟨q1, q2, q3, q4⟩ := num_cells (num_kept KR.out hb)
  have HN := hid (show NatAt w5 ad m cap _ from ⟨hm, hh⟩); have HB := hid hb
  clear hm hh hb
  go_wp2
  obtain ⟨d1, d2⟩ := num_done HB0.out KR.out (by omega) HB.out HN.out (.bool true) (.slice ad m cap)
  exact bodyPost_ret (v := .agg #[.bool true, .slice ad m cap]) (by simp [results, Tryz.results122, go_sem, q1, q2]) rfl ⟨true, G, ad, m, cap, rfl, rfl, d1, d2⟩)
theorem plus_PML (N1 N2 : Nat) (a1 a2 : Option Addr) (m1 m2 c1 c2 : Nat) (w : World) (h1 : NatAt w a1 m1 c1 N1) (h2 : NatAt w a2 m2 c2 N2) (l1 : m1 ≤ 900) (l2 : m2 ≤ 900) (hlt : N1 < N2) :
 Calls Tryz.prog 122 #[.agg #[.bool false, .slice a1 m1 c1], .agg #[.bool true, .slice a2 m2 c2]] w (NumPost w (intD false N1 + intD true N2)) := by
 obtain ⟨W0, hW0, hb0, k1, k2, kR⟩ := num_frame w false true a1 a2 m1 m2 c1 c2
 have cg := fun W (b : Below W0.heap.size W0 W) => plus_any3 N2 N1 (N2 - N1) (-1) (by omega) (by omega) (by omega) a2 a1 c2 c1 m2 m1 W ((h2.below hb0 (Nat.le_refl _)).below b (Nat.le_refl _)) ((h1.below hb0 (Nat.le_refl _)).below b (Nat.le_refl _)) (by omega) (by omega)
 have he : intD true (N2 - N1) = intD false N1 + intD true N2 := by simp [intD] <;> omega
 obtain ⟨G, hG⟩ : ∃ G, N2 - N1 = G := ⟨_, rfl⟩
 rw [hG] at cg he
 rw [← he]
 have cl := less_any N1 N2 a1 a2 c1 c2 m1 m2 W0 (h1.below hb0 (Nat.le_refl _)) (h2.below hb0 (Nat.le_refl _))
 rw [show decide (N1 < N2) = true from decide_eq_true hlt] at cl
 have CG := hid cg
 have CL := hid cl
 have hall := fun W (b : Below W0.heap.size W0 W) => And.intro (num_cells (num_kept k1 b)) (num_cells (num_kept k2 b))
 have HALL := hid hall
 have HW := hid hW0; have HB0 := hid hb0; have KR := hid kR
 obtain ⟨⟨p1, p2, _, _⟩, ⟨p3, p4, _, _⟩⟩ := hall W0 (Below.refl _ _)
 have HC4 := hid (fun W b => show (W.cell? ⟨w.heap.size, 0, none⟩ = some (.bool false) ∧ W.cell? ⟨w.heap.size, 1, none⟩ = some (.slice a1 m1 c1)) ∧ (W.cell? ⟨w.heap.size + 1, 0, none⟩ = some (.bool true) ∧ W.cell? ⟨w.heap.size + 1, 1, none⟩ = some (.slice a2 m2 c2)) from ⟨⟨(HALL.out W b).1.1, (HALL.out W b).1.2.1⟩, ⟨(HALL.out W b).2.1, (HALL.out W b).2.2.1⟩⟩)
 clear cg hb0 k1 k2 kR h1 h2 hG hW0 hall he cl
 go_enter Tryz.func122, Tryz.ntmps122
 go_wp2_with (rw [HW.out])
 refine CL.out.mono ?_
 rintro e wz ⟨rfl, bz⟩
 obtain ⟨⟨r1, r2⟩, ⟨r3, r4⟩⟩ := HC4.out wz bz
 have BZ := hid bz
 have KZ := hid (num_kept KR.out bz)
 clear p1 p2 p3 p4 bz CL
 go_wp2_with fail
 go_region_held3 (fun W => (W.cell? ⟨w.heap.size, 0, none⟩ = some (.bool false) ∧ W.cell? ⟨w.heap.size, 1, none⟩ = some (.slice a1 m1 c1)) ∧ (W.cell? ⟨w.heap.size + 1, 0, none⟩ = some (.bool true) ∧ W.cell? ⟨w.heap.size + 1, 1, none⟩ = some (.slice a2 m2 c2)))
  (first | exact HC4.out _ ⟨BZ.out.os, BZ.out.tape, BZ.out.output, BZ.out.size, BZ.out.block⟩ | exact HC4.out _ (below_of BZ.out hb) | (obtain ⟨⟨e1, e2⟩, ⟨e3, e4⟩⟩ := HC4.out _ (below_of BZ.out hb); simp [go_sem, e1, e2, e3, e4]))
  ((go_at_call 140; (with_reducible refine (CG.out _ ?_).mono ?_); exact ⟨BZ.out.os, BZ.out.tape, BZ.out.output, BZ.out.size, BZ.out.block⟩; (rintro e w5 ⟨ad, cap, m, rfl, hm, hh, hb'⟩); have hb : Below wz.heap.size wz w5 := ⟨hb'.os, hb'.tape, hb'.output, hb'.size, hb'.block⟩; obtain ⟨q1, q2, q3, q4⟩ := num_cells (num_kept KZ.out hb)))
 all_goals (
  obtain ⟨q1, q2, q3, q4⟩ := num_cells (num_kept KZ.out hb)
  have HN := hid (show NatAt w5 ad m cap _ from ⟨hm, hh⟩); have HB := hid (below_of BZ.out hb)
  clear hm hh hb
  go_wp2
  obtain ⟨d1, d2⟩ := num_done HB0.out KR.out (by omega) HB.out HN.out (.bool true) (.slice ad m cap)
  exact bodyPost_ret (v := .agg #[.bool true, .slice ad m cap]) (by simp [results, Tryz.results122, go_sem, q1, q2]) rfl ⟨true, G, ad, m, cap, rfl, rfl, d1, d2⟩)
theorem plus_PMG (N1 N2 : Nat) (a1 a2 : Option Addr) (m1 m2 c1 c2 : Nat) (w : World) (h1 : NatAt w a1 m1 c1 N1) (h2 : NatAt w a2 m2 c2 N2) (l1 : m1 ≤ 900) (l2 : m2 ≤ 900) (hlt : ¬ N1 < N2) :
 Calls Tryz.prog 122 #[.agg #[.bool false, .slice a1 m1 c1], .agg #[.bool true, .slice a2 m2 c2]] w (NumPost w (intD false N1 + intD true N2)) := by
 obtain ⟨W0, hW0, hb0, k1, k2, kR⟩ := num_frame w false true a1 a2 m1 m2 c1 c2
 have cg := fun W (b : Below W0.heap.size W0 W) => plus_any3 N1 N2 (N1 - N2) (-1) (by omega) (by omega) (by omega) a1 a2 c1 c2 m1 m2 W ((h1.below hb0 (Nat.le_refl _)).below b (Nat.le_refl _)) ((h2.below hb0 (Nat.le_refl _)).below b (Nat.le_refl _)) (by omega) (by omega)
 have he : intD false (N1 - N2) = intD false N1 + intD true N2 := by simp [intD] <;> omega
 obtain ⟨G, hG⟩ : ∃ G, N1 - N2 = G := ⟨_, rfl⟩
 rw [hG] at cg he
 rw [← he]
 have cl := less_any N1 N2 a1 a2 c1 c2 m1 m2 W0 (h1.below hb0 (Nat.le_refl _)) (h2.below hb0 (Nat.le_refl _))
 rw [show decide (N1 < N2) = false from decide_eq_false hlt] at cl
 have CG := hid cg
 have CL := hid cl
 have hall := fun W (b : Below W0.heap.size W0 W) => And.intro (num_cells (num_kept k1 b)) (num_cells (num_kept k2 b))
 have HALL := hid hall
 have HW := hid hW0; have HB0 := hid hb0; have KR := hid kR
 obtain ⟨⟨p1, p2, _, _⟩, ⟨p3, p4, _, _⟩⟩ := hall W0 (Below.refl _ _)
 have HC4 := hid (fun W b => show (W.cell? ⟨w.heap.size, 0, none⟩ = some (.bool false) ∧ W.cell? ⟨w.heap.size, 1, none⟩ = some (.slice a1 m1 c1)) ∧ (W.cell? ⟨w.heap.size + 1, 0, none⟩ = some (.bool true) ∧ W.cell? ⟨w.heap.size + 1, 1, none⟩ = some (.slice a2 m2 c2)) from ⟨⟨(HALL.out W b).1.1, (HALL.out W b).1.2.1⟩, ⟨(HALL.out W b).2.1, (HALL.out W b).2.2.1⟩⟩)
 clear cg hb0 k1 k2 kR h1 h2 hG hW0 hall he cl
 go_enter Tryz.func122, Tryz.ntmps122
 go_wp2_with (rw [HW.out])
 refine CL.out.mono ?_
 rintro e wz ⟨rfl, bz⟩
 obtain ⟨⟨r1, r2⟩, ⟨r3, r4⟩⟩ := HC4.out wz bz
 have BZ := hid bz
 have KZ := hid (num_kept KR.out bz)
 clear p1 p2 p3 p4 bz CL
 go_wp2_with fail
 go_region_held3 (fun W => (W.cell? ⟨w.heap.size, 0, none⟩ = some (.bool false) ∧ W.cell? ⟨w.heap.size, 1, none⟩ = some (.slice a1 m1 c1)) ∧ (W.cell? ⟨w.heap.size + 1, 0, none⟩ = some (.bool true) ∧ W.cell? ⟨w.heap.size + 1, 1, none⟩ = some (.slice a2 m2 c2)))
  (first | exact HC4.out _ ⟨BZ.out.os, BZ.out.tape, BZ.out.output, BZ.out.size, BZ.out.block⟩ | exact HC4.out _ (below_of BZ.out hb) | (obtain ⟨⟨e1, e2⟩, ⟨e3, e4⟩⟩ := HC4.out _ (below_of BZ.out hb); simp [go_sem, e1, e2, e3, e4]))
  ((go_at_call 140; (with_reducible refine (CG.out _ ?_).mono ?_); exact ⟨BZ.out.os, BZ.out.tape, BZ.out.output, BZ.out.size, BZ.out.block⟩; (rintro e w5 ⟨ad, cap, m, rfl, hm, hh, hb'⟩); have hb : Below wz.heap.size wz w5 := ⟨hb'.os, hb'.tape, hb'.output, hb'.size, hb'.block⟩; obtain ⟨q1, q2, q3, q4⟩ := num_cells (num_kept KZ.out hb)))
 all_goals (
  obtain ⟨q1, q2, q3, q4⟩ := num_cells (num_kept KZ.out hb)
  have HN := hid (show NatAt w5 ad m cap _ from ⟨hm, hh⟩); have HB := hid (below_of BZ.out hb)
  clear hm hh hb
  go_wp2
  obtain ⟨d1, d2⟩ := num_done HB0.out KR.out (by omega) HB.out HN.out (.bool false) (.slice ad m cap)
  exact bodyPost_ret (v := .agg #[.bool false, .slice ad m cap]) (by simp [results, Tryz.results122, go_sem, q1, q2]) rfl ⟨false, G, ad, m, cap, rfl, rfl, d1, d2⟩)
theorem plus_MPL (N1 N2 : Nat) (a1 a2 : Option Addr) (m1 m2 c1 c2 : Nat) (w : World) (h1 : NatAt w a1 m1 c1 N1) (h2 : NatAt w a2 m2 c2 N2) (l1 : m1 ≤ 900) (l2 : m2 ≤ 900) (hlt : N1 < N2) :
 Calls Tryz.prog 122 #[.agg #[.bool true, .slice a1 m1 c1], .agg #[.bool false, .slice a2 m2 c2]] w (NumPost w (intD true N1 + intD false N2)) := by
 obtain ⟨W0, hW0, hb0, k1, k2, kR⟩ := num_frame w true false a1 a2 m1 m2 c1 c2
 have cg := fun W (b : Below W0.heap.size W0 W) => plus_any3 N2 N1 (N2 - N1) (-1) (by omega) (by omega) (by omega) a2 a1 c2 c1 m2 m1 W ((h2.below hb0 (Nat.le_refl _)).below b (Nat.le_refl _)) ((h1.below hb0 (Nat.le_refl _)).below b (Nat.le_refl _)) (by omega) (by omega)
 have he : intD false (N2 - N1) = intD true N1 + intD false N2 := by simp [intD] <;> omega
 obtain ⟨G, hG⟩ : ∃ G, N2 - N1 = G := ⟨_, rfl⟩
 rw [hG] at cg he
 rw [← he]
 have cl := less_any N1 N2 a1 a2 c1 c2 m1 m2 W0 (h1.below hb0 (Nat.le_refl _)) (h2.below hb0 (Nat.le_refl _))
 rw [show decide (N1 < N2) = true from decide_eq_true hlt] at cl
 have CG := hid cg
 have CL := hid cl
 have hall := fun W (b : Below W0.heap.size W0 W) => And.intro (num_cells (num_kept k1 b)) (num_cells (num_kept k2 b))
 have HALL := hid hall
 have HW := hid hW0; have HB0 := hid hb0; have KR := hid kR
 obtain ⟨⟨p1, p2, _, _⟩, ⟨p3, p4, _, _⟩⟩ := hall W0 (Below.refl _ _)
 have HC4 := hid (fun W b => show (W.cell? ⟨w.heap.size, 0, none⟩ = some (.bool true) ∧ W.cell? ⟨w.heap.size, 1, none⟩ = some (.slice a1 m1 c1)) ∧ (W.cell? ⟨w.heap.size + 1, 0, none⟩ = some (.bool false) ∧ W.cell? ⟨w.heap.size + 1, 1, none⟩ = some (.slice a2 m2 c2)) from ⟨⟨(HALL.out W b).1.1, (HALL.out W b).1.2.1⟩, ⟨(HALL.out W b).2.1, (HALL.out W b).2.2.1⟩⟩)
 clear cg hb0 k1 k2 kR h1 h2 hG hW0 hall he cl
 go_enter Tryz.func122, Tryz.ntmps122
 go_wp2_with (rw [HW.out])
 refine CL.out.mono ?_
 rintro e wz ⟨rfl, bz⟩
 obtain ⟨⟨r1, r2⟩, ⟨r3, r4⟩⟩ := HC4.out wz bz
 have BZ := hid bz
 have KZ := hid (num_kept KR.out bz)
 clear p1 p2 p3 p4 bz CL
 go_wp2_with fail
 go_region_held3 (fun W => (W.cell? ⟨w.heap.size, 0, none⟩ = some (.bool true) ∧ W.cell? ⟨w.heap.size, 1, none⟩ = some (.slice a1 m1 c1)) ∧ (W.cell? ⟨w.heap.size + 1, 0, none⟩ = some (.bool false) ∧ W.cell? ⟨w.heap.size + 1, 1, none⟩ = some (.slice a2 m2 c2)))
  (first | exact HC4.out _ ⟨BZ.out.os, BZ.out.tape, BZ.out.output, BZ.out.size, BZ.out.block⟩ | exact HC4.out _ (below_of BZ.out hb) | (obtain ⟨⟨e1, e2⟩, ⟨e3, e4⟩⟩ := HC4.out _ (below_of BZ.out hb); simp [go_sem, e1, e2, e3, e4]))
  ((go_at_call 140; (with_reducible refine (CG.out _ ?_).mono ?_); exact ⟨BZ.out.os, BZ.out.tape, BZ.out.output, BZ.out.size, BZ.out.block⟩; (rintro e w5 ⟨ad, cap, m, rfl, hm, hh, hb'⟩); have hb : Below wz.heap.size wz w5 := ⟨hb'.os, hb'.tape, hb'.output, hb'.size, hb'.block⟩; obtain ⟨q1, q2, q3, q4⟩ := num_cells (num_kept KZ.out hb)))
 all_goals (
  obtain ⟨q1, q2, q3, q4⟩ := num_cells (num_kept KZ.out hb)
  have HN := hid (show NatAt w5 ad m cap _ from ⟨hm, hh⟩); have HB := hid (below_of BZ.out hb)
  clear hm hh hb
  go_wp2
  obtain ⟨d1, d2⟩ := num_done HB0.out KR.out (by omega) HB.out HN.out (.bool false) (.slice ad m cap)
  exact bodyPost_ret (v := .agg #[.bool false, .slice ad m cap]) (by simp [results, Tryz.results122, go_sem, q1, q2]) rfl ⟨false, G, ad, m, cap, rfl, rfl, d1, d2⟩)
theorem plus_MPG (N1 N2 : Nat) (a1 a2 : Option Addr) (m1 m2 c1 c2 : Nat) (w : World) (h1 : NatAt w a1 m1 c1 N1) (h2 : NatAt w a2 m2 c2 N2) (l1 : m1 ≤ 900) (l2 : m2 ≤ 900) (hlt : ¬ N1 < N2) :
 Calls Tryz.prog 122 #[.agg #[.bool true, .slice a1 m1 c1], .agg #[.bool false, .slice a2 m2 c2]] w (NumPost w (intD true N1 + intD false N2)) := by
 obtain ⟨W0, hW0, hb0, k1, k2, kR⟩ := num_frame w true false a1 a2 m1 m2 c1 c2
 have cg := fun W (b : Below W0.heap.size W0 W) => plus_any3 N1 N2 (N1 - N2) (-1) (by omega) (by omega) (by omega) a1 a2 c1 c2 m1 m2 W ((h1.below hb0 (Nat.le_refl _)).below b (Nat.le_refl _)) ((h2.below hb0 (Nat.le_refl _)).below b (Nat.le_refl _)) (by omega) (by omega)
 have he : intD true (N1 - N2) = intD true N1 + intD false N2 := by simp [intD] <;> omega
 obtain ⟨G, hG⟩ : ∃ G, N1 - N2 = G := ⟨_, rfl⟩
 rw [hG] at cg he
 rw [← he]
 have cl := less_any N1 N2 a1 a2 c1 c2 m1 m2 W0 (h1.below hb0 (Nat.le_refl _)) (h2.below hb0 (Nat.le_refl _))
 rw [show decide (N1 < N2) = false from decide_eq_false hlt] at cl
 have CG := hid cg
 have CL := hid cl
 have hall := fun W (b : Below W0.heap.size W0 W) => And.intro (num_cells (num_kept k1 b)) (num_cells (num_kept k2 b))
 have HALL := hid hall
 have HW := hid hW0; have HB0 := hid hb0; have KR := hid kR
 obtain ⟨⟨p1, p2, _, _⟩, ⟨p3, p4, _, _⟩⟩ := hall W0 (Below.refl _ _)
 have HC4 := hid (fun W b => show (W.cell? ⟨w.heap.size, 0, none⟩ = some (.bool true) ∧ W.cell? ⟨w.heap.size, 1, none⟩ = some (.slice a1 m1 c1)) ∧ (W.cell? ⟨w.heap.size + 1, 0, none⟩ = some (.bool false) ∧ W.cell? ⟨w.heap.size + 1, 1, none⟩ = some (.slice a2 m2 c2)) from ⟨⟨(HALL.out W b).1.1, (HALL.out W b).1.2.1⟩, ⟨(HALL.out W b).2.1, (HALL.out W b).2.2.1⟩⟩)
 clear cg hb0 k1 k2 kR h1 h2 hG hW0 hall he cl
 go_enter Tryz.func122, Tryz.ntmps122
 go_wp2_with (rw [HW.out])
 refine CL.out.mono ?_
 rintro e wz ⟨rfl, bz⟩
 obtain ⟨⟨r1, r2⟩, ⟨r3, r4⟩⟩ := HC4.out wz bz
 have BZ := hid bz
 have KZ := hid (num_kept KR.out bz)
 clear p1 p2 p3 p4 bz CL
 go_wp2_with fail
 go_region_held3 (fun W => (W.cell? ⟨w.heap.size, 0, none⟩ = some (.bool true) ∧ W.cell? ⟨w.heap.size, 1, none⟩ = some (.slice a1 m1 c1)) ∧ (W.cell? ⟨w.heap.size + 1, 0, none⟩ = some (.bool false) ∧ W.cell? ⟨w.heap.size + 1, 1, none⟩ = some (.slice a2 m2 c2)))
  (first | exact HC4.out _ ⟨BZ.out.os, BZ.out.tape, BZ.out.output, BZ.out.size, BZ.out.block⟩ | exact HC4.out _ (below_of BZ.out hb) | (obtain ⟨⟨e1, e2⟩, ⟨e3, e4⟩⟩ := HC4.out _ (below_of BZ.out hb); simp [go_sem, e1, e2, e3, e4]))
  ((go_at_call 140; (with_reducible refine (CG.out _ ?_).mono ?_); exact ⟨BZ.out.os, BZ.out.tape, BZ.out.output, BZ.out.size, BZ.out.block⟩; (rintro e w5 ⟨ad, cap, m, rfl, hm, hh, hb'⟩); have hb : Below wz.heap.size wz w5 := ⟨hb'.os, hb'.tape, hb'.output, hb'.size, hb'.block⟩; obtain ⟨q1, q2, q3, q4⟩ := num_cells (num_kept KZ.out hb)))
 all_goals (
  obtain ⟨q1, q2, q3, q4⟩ := num_cells (num_kept KZ.out hb)
  have HN := hid (show NatAt w5 ad m cap _ from ⟨hm, hh⟩); have HB := hid (below_of BZ.out hb)
  clear hm hh hb
  go_wp2
  obtain ⟨d1, d2⟩ := num_done HB0.out KR.out (by omega) HB.out HN.out (.bool true) (.slice ad m cap)
  exact bodyPost_ret (v := .agg #[.bool true, .slice ad m cap]) (by simp [results, Tryz.results122, go_sem, q1, q2]) rfl ⟨true, G, ad, m, cap, rfl, rfl, d1, d2⟩)
theorem plusN_any (b1 b2 : Bool) (N1 N2 : Nat) (a1 a2 : Option Addr) (m1 m2 c1 c2 : Nat) (w : World) (h1 : NatAt w a1 m1 c1 N1) (h2 : NatAt w a2 m2 c2 N2) (l1 : m1 ≤ 900) (l2 : m2 ≤ 900) :
 Calls Tryz.prog 122 #[.agg #[.bool b1, .slice a1 m1 c1], .agg #[.bool b2, .slice a2 m2 c2]] w (NumPost w (intD b1 N1 + intD b2 N2)) := by
 cases b1 <;> cases b2
 · exact plus_PP N1 N2 a1 a2 m1 m2 c1 c2 w h1 h2 l1 l2
 · by_cases h : N1 < N2
   · exact plus_PML N1 N2 a1 a2 m1 m2 c1 c2 w h1 h2 l1 l2 h
   exact plus_PMG N1 N2 a1 a2 m1 m2 c1 c2 w h1 h2 l1 l2 h
 · by_cases h : N1 < N2
   · exact plus_MPL N1 N2 a1 a2 m1 m2 c1 c2 w h1 h2 l1 l2 h
   exact plus_MPG N1 N2 a1 a2 m1 m2 c1 c2 w h1 h2 l1 l2 h
 exact plus_MM N1 N2 a1 a2 m1 m2 c1 c2 w h1 h2 l1 l2
theorem minusN_any (b1 b2 : Bool) (N1 N2 : Nat) (a1 a2 : Option Addr) (m1 m2 c1 c2 : Nat) (w : World) (h1 : NatAt w a1 m1 c1 N1) (h2 : NatAt w a2 m2 c2 N2) (l1 : m1 ≤ 900) (l2 : m2 ≤ 900) :
 Calls Tryz.prog 125 #[.agg #[.bool b1, .slice a1 m1 c1], .agg #[.bool b2, .slice a2 m2 c2]] w (NumPost w (intD b1 N1 - intD b2 N2)) := by
 obtain ⟨W0, hW0, hb0, k1, k2, kR⟩ := num_frame w b1 b2 a1 a2 m1 m2 c1 c2
 have cg := plusN_any b1 (!b2) N1 N2 a1 a2 m1 m2 c1 c2 W0 (h1.below hb0 (Nat.le_refl _)) (h2.below hb0 (Nat.le_refl _)) l1 l2
 have he : intD b1 N1 + intD (!b2) N2 = intD b1 N1 - intD b2 N2 := by cases b2 <;> simp [intD] <;> omega
 rw [he] at cg
 obtain ⟨X, hX⟩ : ∃ X, intD b1 N1 - intD b2 N2 = X := ⟨_, rfl⟩
 rw [hX] at cg ⊢
 have hl1 := fun W (b : Below W0.heap.size W0 W) => num_kept k1 b
 have CG := hid cg
 have hall := fun W (b : Below W0.heap.size W0 W) => And.intro (num_cells (num_kept k1 b)) (num_cells (num_kept k2 b))
 have HALL := hid hall
 have HW := hid hW0; have HB0 := hid hb0; have KR := hid kR
 obtain ⟨⟨p1, p2, _, _⟩, ⟨p3, p4, _, _⟩⟩ := hall W0 (Below.refl _ _)
 clear cg hb0 k2 kR h1 h2 hX hW0 hall he hl1
 go_enter Tryz.func125, Tryz.ntmps125
 go_wp2_with (rw [HW.out])
 refine CG.out.mono ?_
 rintro e w5 ⟨neg, G, ad, m, cap, rfl, hg, hn, hb⟩
 obtain ⟨q1, q2, q3, q4⟩ := num_cells (num_kept KR.out hb)
 have HG := hid hg; have HN := hid hn; have HB := hid hb
 clear CG hn hb hg
 go_wp2_with fail
 obtain ⟨d1, d2⟩ := num_done HB0.out KR.out (by omega) HB.out HN.out (.bool neg) (.slice ad m cap)
 exact bodyPost_ret (v := .agg #[.bool neg, .slice ad m cap]) (by simp [results, Tryz.results125, go_sem, q1, q2]) rfl ⟨neg, G, ad, m, cap, rfl, HG.out, d1, d2⟩
end Go.Proofs.YtcglcgphgahnpaaGreatDoor
namespace Go.Proofs.YtcglcgphgahnpaaGreatDoor
open Go Go.Proofs Go.RowKit Go.Lib
theorem grps_nil_iff {N m : Nat} (h : (grps N).length = m) : N = 0 ↔ m = 0 := by
 constructor
 · rintro rfl; rw [← h, grps_zero]; rfl
 intro e
 rcases Nat.eq_zero_or_pos N with h0 | h0
 · exact h0
 rw [grps_pos (by omega)] at h; simp at h; omega
theorem textNat_any (N : Nat) (ad : Option Addr) (cap m : Nat) (w : World) (h : NatAt w ad m cap N) (hm : m ≤ 1000) (hR : Ready w) :
 Calls Tryz.prog 141 #[.slice ad m cap] w fun e w' => e = .returned (.string (byteL (textN N))) ∧ Below w.heap.size w w' := by
 by_cases h0 : N = 0
 · obtain rfl := h0
   obtain rfl : m = 0 := (grps_nil_iff h.1).1 rfl
   have ht : byteL (textN 0) = ⟨#[48]⟩ := rfl
   rw [ht]
   go_enter Tryz.func141, Tryz.ntmps141
   go_wp2
   go_ret
   exact ⟨rfl, Below.refl _ _⟩
 exact callsIn_wide.1 (textM_in 0 N h0 ad cap m w h hm hR)
theorem minus_app (l : List Nat) : (⟨#[45]⟩ : ByteArray) ++ byteL l = byteL (45 :: l) := by
 apply ByteArray.ext
 rw [ByteArray.data_append]
 unfold byteL
 simp
theorem numText_any (b : Bool) (N : Nat) (ad : Option Addr) (m c : Nat) (w : World) (h : NatAt w ad m c N) (hm : m ≤ 1000) (hR : Ready w) :
 Calls Tryz.prog 111 #[.agg #[.bool b, .slice ad m c]] w fun e w' => e = .returned (.string (textI (intD b N))) ∧ Below w.heap.size w w' := by
 obtain ⟨W0, hW0⟩ : ∃ W0, w.alloc (.cells #[.bool b, .slice ad m c] 121) = W0 := ⟨_, rfl⟩
 have hb0 : Below w.heap.size w W0 := by rw [← hW0]; exact (Below.refl _ _).alloc (Nat.le_refl _) _
 have hk : W0.heap[w.heap.size]? = some (.cells #[.bool b, .slice ad m c] 121) := by rw [← hW0]; exact heap_alloc_new _ _
 obtain ⟨p1, p2, _, _⟩ := num_cells hk
 have ct := textNat_any N ad c m W0 (h.below hb0 (Nat.le_refl _)) hm (hR.below hb0)
 have hz := grps_nil_iff h.1
 have hlt := (grps_length_iff m N).1 (Nat.le_of_eq h.1)
 have CT := hid ct; have HW := hid hW0; have HB := hid hb0
 clear ct hW0 hb0 hk h hR
 cases b with
 | false =>
  have he : textI (intD false N) = byteL (textN N) := by
   show textI (N : Int) = _
   unfold textI
   rw [if_neg (by omega), Int.natAbs_natCast]
   rfl
  rw [he]
  clear he hz
  go_enter Tryz.func111, Tryz.ntmps111
  go_wp2_with (rw [HW.out])
  refine CT.out.mono ?_
  rintro e w5 ⟨rfl, hb⟩
  have HB5 := hid (below_of HB.out hb)
  clear hb
  go_wp2_with fail
  go_ret
  exact ⟨rfl, HB5.out⟩
 | true =>
  by_cases h0 : m = 0
  · have hN := hz.2 h0
    subst hN
    have he : textI (intD true 0) = byteL (textN 0) := rfl
    rw [he]
    subst h0
    clear he hz
    go_enter Tryz.func111, Tryz.ntmps111
    go_wp2_with (rw [HW.out])
    refine CT.out.mono ?_
    rintro e w5 ⟨rfl, hb⟩
    have HB5 := hid (below_of HB.out hb)
    clear hb
    go_wp2_with fail
    go_ret
    exact ⟨rfl, HB5.out⟩
  have hN : N ≠ 0 := fun e => h0 (hz.1 e)
  have hmi : (0 : Int) < (m : Int) := by omega
  have he : textI (intD true N) = ⟨#[45]⟩ ++ byteL (textN N) := by
   rw [minus_app]
   unfold textI intD
   rw [if_pos (by simp; omega)]
   simp
  rw [he]
  have hTs : ¬ 9223372036854775807 < 1 + (byteL (textN N)).size := by
   rw [byteL_size]
   have := textN_len_le hlt
   omega
  obtain ⟨T, hT⟩ : ∃ T, byteL (textN N) = T := ⟨_, rfl⟩
  rw [hT] at CT hTs ⊢
  clear he hz hT
  go_enter Tryz.func111, Tryz.ntmps111
  go_wp2_with (rw [HW.out])
  refine CT.out.mono ?_
  rintro e w5 ⟨rfl, hb⟩
  have HB5 := hid (below_of HB.out hb)
  clear hb
  go_wp2_with fail
  go_ret
  exact ⟨rfl, HB5.out⟩
def sgnI (x y : Int) : Int := if x < y then -1 else if y < x then 1 else 0
theorem two_frame (w : World) (b1 b2 : Bool) (a1 a2 : Option Addr) (m1 m2 c1 c2 : Nat) : ∃ W0, (w.alloc (.cells #[.bool b1, .slice a1 m1 c1] 121)).alloc (.cells #[.bool b2, .slice a2 m2 c2] 121) = W0 ∧
 Below w.heap.size w W0 ∧ W0.heap[w.heap.size]? = some (.cells #[.bool b1, .slice a1 m1 c1] 121) ∧ W0.heap[w.heap.size + 1]? = some (.cells #[.bool b2, .slice a2 m2 c2] 121) := by
 refine ⟨_, rfl, ((Below.refl _ _).alloc (Nat.le_refl _) _).alloc (by simp) _, ?_, ?_⟩
 · rw [Below.heap_alloc _ _ _ (by simp)]
   exact heap_alloc_new _ _
 have := heap_alloc_new (w.alloc (.cells #[.bool b1, .slice a1 m1 c1] 121)) (.cells #[.bool b2, .slice a2 m2 c2] 121)
 rw [World.size_alloc] at this
 exact this
theorem cmpI_cases (m n : Nat) : cmpI m n = sgnI (m : Int) (n : Int) ∧ cmpI n m = sgnI (-(m : Int)) (-(n : Int)) := by
 unfold cmpI sgnI
 constructor <;> (split <;> split <;> (try split) <;> (try split) <;> omega)
theorem numCmp_any (b1 b2 : Bool) (N1 N2 : Nat) (z1 : b1 = true → N1 ≠ 0) (z2 : b2 = true → N2 ≠ 0) (a1 a2 : Option Addr) (m1 m2 c1 c2 : Nat) (w : World) (h1 : NatAt w a1 m1 c1 N1) (h2 : NatAt w a2 m2 c2 N2) :
 Calls Tryz.prog 112 #[.agg #[.bool b1, .slice a1 m1 c1], .agg #[.bool b2, .slice a2 m2 c2]] w fun e w' => e = .returned (.int .i64 (sgnI (intD b1 N1) (intD b2 N2))) ∧ Below w.heap.size w w' := by
 obtain ⟨W0, hW0, hb0, k1, k2⟩ := two_frame w b1 b2 a1 a2 m1 m2 c1 c2
 have cc := compare_any N1 N2 a1 a2 c1 c2 m1 m2 W0 (h1.below hb0 (Nat.le_refl _)) (h2.below hb0 (Nat.le_refl _))
 have cd := compare_any N2 N1 a2 a1 c2 c1 m2 m1 W0 (h2.below hb0 (Nat.le_refl _)) (h1.below hb0 (Nat.le_refl _))
 rw [(cmpI_cases N1 N2).1] at cc
 rw [(cmpI_cases N1 N2).2] at cd
 obtain ⟨p1, p2, _, _⟩ := num_cells k1
 obtain ⟨p3, p4, _, _⟩ := num_cells k2
 have HW := hid hW0; have HB := hid hb0
 clear hW0 hb0 k1 k2 h1 h2
 cases b1 <;> cases b2
 · have he : sgnI (intD false N1) (intD false N2) = sgnI (N1 : Int) (N2 : Int) := rfl
   rw [he]
   obtain ⟨R, hR⟩ : ∃ R, sgnI (N1 : Int) (N2 : Int) = R := ⟨_, rfl⟩
   rw [hR] at cc ⊢
   have CC := hid cc
   clear cc cd he hR z1 z2
   go_enter Tryz.func112, Tryz.ntmps112
   go_wp2_with (rw [HW.out])
   refine CC.out.mono ?_
   rintro e w5 ⟨rfl, hb⟩
   have HB5 := hid (below_of HB.out hb)
   clear hb
   go_wp2_with fail
   go_ret
   exact ⟨rfl, HB5.out⟩
 · have he : sgnI (intD false N1) (intD true N2) = 1 := by
    have := z2 rfl
    unfold sgnI
    rw [if_neg (by simp [intD] <;> omega), if_pos (by simp [intD] <;> omega)]
   rw [he]
   clear cc cd he z1 z2
   go_enter Tryz.func112, Tryz.ntmps112
   go_wp2_with (rw [HW.out])
   go_ret
   exact ⟨rfl, HB.out⟩
 · have he : sgnI (intD true N1) (intD false N2) = -1 := by
    have := z1 rfl
    unfold sgnI
    rw [if_pos (by simp [intD] <;> omega)]
   rw [he]
   clear cc cd he z1 z2
   go_enter Tryz.func112, Tryz.ntmps112
   go_wp2_with (rw [HW.out])
   go_ret
   exact ⟨rfl, HB.out⟩
 have he : sgnI (intD true N1) (intD true N2) = sgnI (-(N1 : Int)) (-(N2 : Int)) := rfl
 rw [he]
 obtain ⟨R, hR⟩ : ∃ R, sgnI (-(N1 : Int)) (-(N2 : Int)) = R := ⟨_, rfl⟩
 rw [hR] at cd ⊢
 have CC := hid cd
 clear cc cd he hR z1 z2
 go_enter Tryz.func112, Tryz.ntmps112
 go_wp2_with (rw [HW.out])
 refine CC.out.mono ?_
 rintro e w5 ⟨rfl, hb⟩
 have HB5 := hid (below_of HB.out hb)
 clear hb
 go_wp2_with fail
 go_ret
 exact ⟨rfl, HB5.out⟩
end Go.Proofs.YtcglcgphgahnpaaGreatDoor
namespace Go.Proofs.YtcglcgphgahnpaaGreatDoor
open Go Go.Proofs Go.RowKit Go.Lib
def QRPost (w : World) (q r : Int) (e : Ending) (w' : World) : Prop :=
 ∃ bq Nq aq mq cq Nr ar mr cr, e = .returned (.tuple #[.agg #[.bool bq, .slice aq mq cq], .agg #[.bool false, .slice ar mr cr]]) ∧ intD bq Nq = q ∧ ((Nr : Nat) : Int) = r ∧ NatAt w' aq mq cq Nq ∧ NatAt w' ar mr cr Nr ∧ Below w.heap.size w w'
theorem four_frame (w : World) (b1 b2 : Bool) (a1 a2 : Option Addr) (m1 m2 c1 c2 : Nat) : ∃ W0, (((w.alloc (.cells #[.bool b1, .slice a1 m1 c1] 121)).alloc (.cells #[.bool b2, .slice a2 m2 c2] 121)).alloc (.cells #[.bool false, .slice none 0 0] 121)).alloc (.cells #[.bool false, .slice none 0 0] 121) = W0 ∧
 Below w.heap.size w W0 ∧ W0.heap[w.heap.size]? = some (.cells #[.bool b1, .slice a1 m1 c1] 121) ∧ W0.heap[w.heap.size + 1]? = some (.cells #[.bool b2, .slice a2 m2 c2] 121) ∧ W0.heap[w.heap.size + 2]? = some (.cells #[.bool false, .slice none 0 0] 121) ∧ W0.heap[w.heap.size + 3]? = some (.cells #[.bool false, .slice none 0 0] 121) := by
 obtain ⟨W, hW, hb, h1, h2, h3⟩ := num_frame w b1 b2 a1 a2 m1 m2 c1 c2
 have hs : W.heap.size = w.heap.size + 3 := by rw [← hW]; simp
 rw [hW]
 refine ⟨_, rfl, hb.alloc hb.size _, ?_, ?_, ?_, ?_⟩
 · rw [Below.heap_alloc _ _ _ (by omega)]; exact h1
 · rw [Below.heap_alloc _ _ _ (by omega)]; exact h2
 · rw [Below.heap_alloc _ _ _ (by omega)]; exact h3
 have := heap_alloc_new W (.cells #[.bool false, .slice none 0 0] 121)
 rw [hs] at this
 exact this
theorem natAbs_intD (b : Bool) (N : Nat) : (intD b N).natAbs = N := by cases b <;> simp [intD]
theorem qr_done {w W0 W : World} {t : TypeId} (b0 : Below w.heap.size w W0) (hR : W0.heap[w.heap.size + 2]? = some (.cells #[.bool false, .slice none 0 0] t)) (hS : W0.heap[w.heap.size + 3]? = some (.cells #[.bool false, .slice none 0 0] t)) (b : Below W0.heap.size W0 W) {ad : Option Addr} {m c n : Nat} (h : NatAt W ad m c n) (x y x' y' : Value) :
 NatAt ((((W.setCell ⟨w.heap.size + 2, 0, none⟩ x).setCell ⟨w.heap.size + 2, 1, none⟩ y).setCell ⟨w.heap.size + 3, 0, none⟩ x').setCell ⟨w.heap.size + 3, 1, none⟩ y') ad m c n ∧ Below w.heap.size w ((((W.setCell ⟨w.heap.size + 2, 0, none⟩ x).setCell ⟨w.heap.size + 2, 1, none⟩ y).setCell ⟨w.heap.size + 3, 0, none⟩ x').setCell ⟨w.heap.size + 3, 1, none⟩ y') := by
 have ha := apart_num h (num_kept hR b)
 have ha' := apart_num h (num_kept hS b)
 exact ⟨(((h.store ha 0 _).store ha 1 _).store ha' 0 _).store ha' 1 _, ((((below_of b0 b).setCell (p := ⟨w.heap.size + 2, 0, none⟩) (by show _ ≤ w.heap.size + 2; omega) _).setCell (p := ⟨w.heap.size + 2, 1, none⟩) (by show _ ≤ w.heap.size + 2; omega) _).setCell (p := ⟨w.heap.size + 3, 0, none⟩) (by show _ ≤ w.heap.size + 3; omega) _).setCell (p := ⟨w.heap.size + 3, 1, none⟩) (by show _ ≤ w.heap.size + 3; omega) _⟩
theorem div_less (b1 b2 : Bool) (N1 N2 : Nat) (hd : 0 < N2) (hz : b1 = false ∨ N1 % N2 = 0) (a1 a2 : Option Addr) (m1 m2 c1 c2 : Nat) (w : World) (h1 : NatAt w a1 m1 c1 N1) (h2 : NatAt w a2 m2 c2 N2) (l1 : m1 ≤ 900) (l2 : m2 ≤ 900) :
 Calls Tryz.prog 110 #[.agg #[.bool b1, .slice a1 m1 c1], .agg #[.bool b2, .slice a2 m2 c2]] w (QRPost w (intD b1 N1 / intD b2 N2) (intD b1 N1 % intD b2 N2)) := by
 have hp := div_plain (x := intD b1 N1) (y := intD b2 N2) (b := b1) (c := b2) (by rw [natAbs_intD]) (by rw [natAbs_intD]) (by cases b2 <;> simp [intD] <;> omega) (by rw [natAbs_intD, natAbs_intD]; exact hz)
 rw [natAbs_intD, natAbs_intD] at hp
 obtain ⟨W0, hW0, hb0, k1, k2, kR, kS⟩ := four_frame w b1 b2 a1 a2 m1 m2 c1 c2
 have cd := divide_any N1 N2 hd a1 a2 c1 c2 m1 m2 W0 (h1.below hb0 (Nat.le_refl _)) (h2.below hb0 (Nat.le_refl _)) l1 l2
 obtain ⟨X, hX⟩ : ∃ X, intD b1 N1 / intD b2 N2 = X := ⟨_, rfl⟩
 obtain ⟨Y, hY⟩ : ∃ X, intD b1 N1 % intD b2 N2 = X := ⟨_, rfl⟩
 obtain ⟨Q, hQ⟩ : ∃ X, N1 / N2 = X := ⟨_, rfl⟩
 obtain ⟨R, hR⟩ : ∃ X, N1 % N2 = X := ⟨_, rfl⟩
 rw [hX, hY, hQ, hR] at hp
 rw [hQ, hR] at cd
 rw [hX, hY]
 rw [hR] at hz
 have hall := fun W (b : Below W0.heap.size W0 W) => And.intro (num_cells (num_kept k1 b)) (num_cells (num_kept k2 b))
 have HALL := hid hall
 have HP := hid hp; have CD := hid cd; have HW := hid hW0; have HB0 := hid hb0; have KR := hid kR; have KS := hid kS
 obtain ⟨⟨p1, p2, _, _⟩, ⟨p3, p4, _, _⟩⟩ := hall W0 (Below.refl _ _)
 clear hp cd hW0 hb0 k1 k2 kR kS hall hX hY hQ hR h1 h2
 go_enter Tryz.func110, Tryz.ntmps110
 go_wp2_with (rw [HW.out])
 refine CD.out.mono ?_
 rintro e w5 ⟨aq, cq, mq, ar, cr, mr, rfl, hq, hr, hb⟩
 have hz0 : b1 = false ∨ mr = 0 := hz.imp id (fun h => (grps_nil_iff hr.1).1 h)
 obtain ⟨⟨r1, r2, _, _⟩, ⟨r3, r4, _, _⟩⟩ := HALL.out w5 hb
 obtain ⟨q1, q2, q3, q4⟩ := num_cells (num_kept KR.out hb)
 obtain ⟨q5, q6, q7, q8⟩ := num_cells (num_kept KS.out hb)
 have HQ := hid hq; have HR := hid hr; have HB := hid hb
 clear hq hr hb p1 p2 p3 p4 CD hz
 cases b1
 · clear hz0
   cases b2
   · go_wp2_with fail
     exact bodyPost_ret (v := .tuple #[.agg #[.bool (false != false), .slice aq mq cq], .agg #[.bool false, .slice ar mr cr]]) (by simp [results, Tryz.results110, go_sem, q1, q2, q5, q6]) rfl ⟨(false != false), Q, aq, mq, cq, R, ar, mr, cr, rfl, HP.out.1, HP.out.2, (qr_done HB0.out KR.out KS.out HB.out HQ.out _ _ _ _).1, (qr_done HB0.out KR.out KS.out HB.out HR.out _ _ _ _).1, (qr_done HB0.out KR.out KS.out HB.out HR.out _ _ _ _).2⟩
   go_wp2_with fail
   exact bodyPost_ret (v := .tuple #[.agg #[.bool (false != true), .slice aq mq cq], .agg #[.bool false, .slice ar mr cr]]) (by simp [results, Tryz.results110, go_sem, q1, q2, q5, q6]) rfl ⟨(false != true), Q, aq, mq, cq, R, ar, mr, cr, rfl, HP.out.1, HP.out.2, (qr_done HB0.out KR.out KS.out HB.out HQ.out _ _ _ _).1, (qr_done HB0.out KR.out KS.out HB.out HR.out _ _ _ _).1, (qr_done HB0.out KR.out KS.out HB.out HR.out _ _ _ _).2⟩
 obtain rfl : mr = 0 := hz0.resolve_left (by simp)
 cases b2
 · go_wp2_with fail
   exact bodyPost_ret (v := .tuple #[.agg #[.bool (true != false), .slice aq mq cq], .agg #[.bool false, .slice ar 0 cr]]) (by simp [results, Tryz.results110, go_sem, q1, q2, q5, q6]) rfl ⟨(true != false), Q, aq, mq, cq, R, ar, 0, cr, rfl, HP.out.1, HP.out.2, (qr_done HB0.out KR.out KS.out HB.out HQ.out _ _ _ _).1, (qr_done HB0.out KR.out KS.out HB.out HR.out _ _ _ _).1, (qr_done HB0.out KR.out KS.out HB.out HR.out _ _ _ _).2⟩
 go_wp2_with fail
 exact bodyPost_ret (v := .tuple #[.agg #[.bool (true != true), .slice aq mq cq], .agg #[.bool false, .slice ar 0 cr]]) (by simp [results, Tryz.results110, go_sem, q1, q2, q5, q6]) rfl ⟨(true != true), Q, aq, mq, cq, R, ar, 0, cr, rfl, HP.out.1, HP.out.2, (qr_done HB0.out KR.out KS.out HB.out HQ.out _ _ _ _).1, (qr_done HB0.out KR.out KS.out HB.out HR.out _ _ _ _).1, (qr_done HB0.out KR.out KS.out HB.out HR.out _ _ _ _).2⟩
theorem div_rest (b2 : Bool) (N1 N2 : Nat) (hd : 0 < N2) (hz : 0 < N1 % N2) (a1 a2 : Option Addr) (m1 m2 c1 c2 : Nat) (w : World) (h1 : NatAt w a1 m1 c1 N1) (h2 : NatAt w a2 m2 c2 N2) (l1 : m1 ≤ 900) (l2 : m2 ≤ 900) :
 Calls Tryz.prog 110 #[.agg #[.bool true, .slice a1 m1 c1], .agg #[.bool b2, .slice a2 m2 c2]] w (QRPost w (intD true N1 / intD b2 N2) (intD true N1 % intD b2 N2)) := by
 have hp := div_more (x := intD true N1) (y := intD b2 N2) (c := b2) (by rw [natAbs_intD]) (by rw [natAbs_intD]) (by cases b2 <;> simp [intD] <;> omega) (by rw [natAbs_intD, natAbs_intD]; exact hz)
 rw [natAbs_intD, natAbs_intD] at hp
 have hrl : N1 % N2 ≤ N2 := Nat.le_of_lt (Nat.mod_lt _ hd)
 have hql : N1 / N2 ≤ N1 := Nat.div_le_self _ _
 obtain ⟨W0, hW0, hb0, k1, k2, kR, kS⟩ := four_frame w true b2 a1 a2 m1 m2 c1 c2
 have cd := divide_any N1 N2 hd a1 a2 c1 c2 m1 m2 W0 (h1.below hb0 (Nat.le_refl _)) (h2.below hb0 (Nat.le_refl _)) l1 l2
 have hn1 := (grps_length_iff m1 N1).1 (Nat.le_of_eq h1.1)
 have hn2 := (grps_length_iff m2 N2).1 (Nat.le_of_eq h2.1)
 obtain ⟨X, hX⟩ : ∃ X, intD true N1 / intD b2 N2 = X := ⟨_, rfl⟩
 obtain ⟨Y, hY⟩ : ∃ X, intD true N1 % intD b2 N2 = X := ⟨_, rfl⟩
 obtain ⟨Q, hQ⟩ : ∃ X, N1 / N2 = X := ⟨_, rfl⟩
 obtain ⟨R, hR⟩ : ∃ X, N1 % N2 = X := ⟨_, rfl⟩
 rw [hX, hY, hQ, hR] at hp
 rw [hQ, hR] at cd
 rw [hX, hY]
 rw [hR] at hz hrl
 rw [hQ] at hql
 have kq2 := fun W (b : Below W0.heap.size W0 W) => (h2.below hb0 (Nat.le_refl _)).below b (Nat.le_refl _)
 have hall := fun W (b : Below W0.heap.size W0 W) => And.intro (num_cells (num_kept k1 b)) (num_cells (num_kept k2 b))
 have HALL := hid hall; have HQ2 := hid kq2
 have HP := hid hp; have CD := hid cd; have HW := hid hW0; have HB0 := hid hb0; have KR := hid kR; have KS := hid kS
 obtain ⟨⟨p1, p2, _, _⟩, ⟨p3, p4, _, _⟩⟩ := hall W0 (Below.refl _ _)
 have HLB := hid (And.intro (Nat.lt_of_le_of_lt hql hn1) (Nat.lt_of_le_of_lt hrl hn2))
 clear hp cd hW0 hb0 k1 k2 kR kS hall hX hY hQ hR h1 h2 hn1 hn2 hql kq2
 go_enter Tryz.func110, Tryz.ntmps110
 go_wp2_with (rw [HW.out])
 refine CD.out.mono ?_
 rintro e w5 ⟨aq, cq, mq, ar, cr, mr, rfl, hq, hr, hb⟩
 have hmr : (0 : Int) < (mr : Int) := by
  have := grps_nil_iff hr.1
  omega
 have hmq : mq ≤ 900 := by have := grps_length_le m1 Q HLB.out.1; have := hq.1; omega
 have hmr9 : mr ≤ 900 := by have := grps_length_le m2 R HLB.out.2; have := hr.1; omega
 have hone : ∀ W : World, NatAt (W.alloc (.cells #[.int .i64 1] 3)) (some ⟨W.heap.size, 0, none⟩) 1 1 1 := fun W => by
  have hg : grps 1 = [1] := by rw [grps_pos (by decide)]; rfl
  refine ⟨by rw [hg]; rfl, ?_⟩
  rw [hg]
  exact ⟨by simp, by simp, .inr ⟨W.heap.size, 0, rfl, by simp, new_num1 .i64 W 1 1 rfl _⟩⟩
 have b6 : Below w5.heap.size w5 (w5.alloc (.cells #[.int .i64 1] 3)) := (Below.refl _ _).alloc (Nat.le_refl _) _
 have cp := plus_any3 Q 1 (Q + 1) 1 (by omega) (by omega) (by omega) aq (some ⟨w5.heap.size, 0, none⟩) cq 1 mq 1 (w5.alloc (.cells #[.int .i64 1] 3)).drew
  ((hq.below b6 (Nat.le_refl _)).below (W' := (w5.alloc (.cells #[.int .i64 1] 3)).drew) (k := (w5.alloc (.cells #[.int .i64 1] 3)).heap.size) ⟨rfl, rfl, rfl, Nat.le_refl _, fun _ _ => rfl⟩ (Nat.le_refl _)) ((hone w5).below (W' := (w5.alloc (.cells #[.int .i64 1] 3)).drew) (k := (w5.alloc (.cells #[.int .i64 1] 3)).heap.size) ⟨rfl, rfl, rfl, Nat.le_refl _, fun _ _ => rfl⟩ (Nat.le_refl _)) (by omega) (by omega)
 have cm := fun W (b : Below w5.heap.size w5 W) => plus_any3 N2 R (N2 - R) (-1) (by omega) (by omega) (by omega) a2 ar c2 cr m2 mr W (HQ2.out W (below_of hb b)) (hr.below b (Nat.le_refl _)) (by omega) (by omega)
 have hc4 := fun W (b : Below w5.heap.size w5 W) => show W.cell? ⟨w.heap.size + 1, 1, none⟩ = some (.slice a2 m2 c2) from (HALL.out W (below_of hb b)).2.2.1
 have CP := hid cp; have CM := hid cm; have HC4 := hid hc4; have B6 := hid b6
 have r1 := (HALL.out w5 hb).1.1
 have HB := hid hb
 obtain ⟨G, hG⟩ : ∃ G, N2 - R = G := ⟨_, rfl⟩
 rw [hG] at CM HP
 clear hq hr hb p1 p2 p3 p4 CD cp cm hc4 b6 hone hG hrl hz
 go_wp2_with fail
 go_region_held3 (fun W => W.cell? ⟨w.heap.size + 1, 1, none⟩ = some (.slice a2 m2 c2))
  (first | exact HC4.out _ ⟨rfl, rfl, rfl, Nat.le_refl _, fun _ _ => rfl⟩ | exact HC4.out _ ⟨B6.out.os, B6.out.tape, B6.out.output, B6.out.size, B6.out.block⟩ | exact HC4.out _ hbP | exact HC4.out _ hbM)
  (first | (go_at_call 140; (with_reducible refine CP.out.mono ?_); (rintro e wP ⟨adP, cP, qP, rfl, hmP, hhP, hbP'⟩); have hbP : Below w5.heap.size w5 wP := below_of B6.out ⟨hbP'.os, hbP'.tape, hbP'.output, hbP'.size, hbP'.block⟩) | (go_at_call 140; (with_reducible refine (CM.out _ ?_).mono ?_); exact hbP; (rintro e wM ⟨adM, cM, qM, rfl, hmM, hhM, hbM'⟩); have hbM := below_of hbP hbM'))
 all_goals (
  have HBM := hid (below_of HB.out hbM)
  obtain ⟨⟨s1, s2, _, _⟩, ⟨s3, s4, _, _⟩⟩ := HALL.out wM HBM.out
  obtain ⟨q1, q2, q3, q4⟩ := num_cells (num_kept KR.out HBM.out)
  obtain ⟨q5, q6, q7, q8⟩ := num_cells (num_kept KS.out HBM.out)
  have HNP := hid (show NatAt wM adP qP cP (Q + 1) from ⟨hmP, hhP.below hbM' (Nat.le_refl _)⟩)
  have HNM := hid (show NatAt wM adM qM cM G from ⟨hmM, hhM⟩)
  clear hmP hhP hmM hhM hbM hbM' hbP hbP'
  go_wp2_with fail
  exact bodyPost_ret (v := .tuple #[.agg #[.bool (true != b2), .slice adP qP cP], .agg #[.bool false, .slice adM qM cM]]) (by simp [results, Tryz.results110, go_sem, q1, q2, q5, q6]) rfl ⟨(true != b2), Q + 1, adP, qP, cP, G, adM, qM, cM, rfl, HP.out.1, HP.out.2, (qr_done HB0.out KR.out KS.out HBM.out HNP.out _ _ _ _).1, (qr_done HB0.out KR.out KS.out HBM.out HNM.out _ _ _ _).1, (qr_done HB0.out KR.out KS.out HBM.out HNM.out _ _ _ _).2⟩)
theorem divN_any (b1 b2 : Bool) (N1 N2 : Nat) (hd : 0 < N2) (a1 a2 : Option Addr) (m1 m2 c1 c2 : Nat) (w : World) (h1 : NatAt w a1 m1 c1 N1) (h2 : NatAt w a2 m2 c2 N2) (l1 : m1 ≤ 900) (l2 : m2 ≤ 900) :
 Calls Tryz.prog 110 #[.agg #[.bool b1, .slice a1 m1 c1], .agg #[.bool b2, .slice a2 m2 c2]] w (QRPost w (intD b1 N1 / intD b2 N2) (intD b1 N1 % intD b2 N2)) := by
 by_cases hz : b1 = false ∨ N1 % N2 = 0
 · exact div_less b1 b2 N1 N2 hd hz a1 a2 m1 m2 c1 c2 w h1 h2 l1 l2
 obtain rfl : b1 = true := by
  cases b1
  · exact (hz (.inl rfl)).elim
  rfl
 exact div_rest b2 N1 N2 hd (Nat.pos_of_ne_zero (fun e => hz (.inr e))) a1 a2 m1 m2 c1 c2 w h1 h2 l1 l2
end Go.Proofs.YtcglcgphgahnpaaGreatDoor
namespace Go.Proofs.YtcglcgphgahnpaaGreatDoor
open Go Go.Proofs Go.RowKit Go.Lib
theorem valid_textB (x : Int) : validB (textI x) = decide (x.natAbs < 10 ^ 200) := by
 by_cases h : x.natAbs < 10 ^ 200
 · rw [decide_eq_true h]; exact (valid_text h).1
 rw [decide_eq_false h, Bool.eq_false_iff]
 intro e
 obtain ⟨y, hy, he⟩ := (validB_iff _).1 e
 exact h (by rw [textI_inj he]; exact hy)
theorem text_len_m {x : Int} {m : Nat} (h : x.natAbs < 10000 ^ m) : (textI x).size ≤ 4 * m + 2 := by
 unfold textI
 rw [byteL_size, List.length_append]
 have := textN_len_le h
 split <;> simp <;> omega
theorem fits_groups {x : Int} (h : Fits x) : (grps x.natAbs).length ≤ 50 := grps_length_le 50 _ (by rw [← pow4]; exact h)
theorem result_any (b : Bool) (N : Nat) (ad : Option Addr) (m c : Nat) (w : World) (h : NatAt w ad m c N) (hm : m ≤ 1000) (hR : Ready w) :
 Calls Tryz.prog 146 #[.agg #[.bool b, .slice ad m c]] w (ResPost w (intD b N)) := by
 obtain ⟨W0, hW0⟩ : ∃ W0, w.alloc (.cells #[.bool b, .slice ad m c] 121) = W0 := ⟨_, rfl⟩
 have hb0 : Below w.heap.size w W0 := by rw [← hW0]; exact (Below.refl _ _).alloc (Nat.le_refl _) _
 have hk : W0.heap[w.heap.size]? = some (.cells #[.bool b, .slice ad m c] 121) := by rw [← hW0]; exact heap_alloc_new _ _
 obtain ⟨p1, p2, _, _⟩ := num_cells hk
 have ct := numText_any b N ad m c W0 (h.below hb0 (Nat.le_refl _)) hm (hR.below hb0)
 have hl : (textI (intD b N)).size ≤ 1099511627776 := by
  have := text_len_m (x := intD b N) (m := m) (by rw [natAbs_intD]; exact (grps_length_iff m N).1 (Nat.le_of_eq h.1))
  omega
 have cv := fun W => valid_w (textI (intD b N)) hl W
 have hv := valid_textB (intD b N)
 unfold ResPost resT resZ
 by_cases hf : (intD b N).natAbs < 10 ^ 200
 · rw [if_pos hf, if_pos hf]
   rw [hv, decide_eq_true hf] at cv
   obtain ⟨T, hT⟩ : ∃ T, textI (intD b N) = T := ⟨_, rfl⟩
   rw [hT] at ct cv ⊢
   have CT := hid ct; have CV := hid cv; have HW := hid hW0; have HB := hid hb0
   clear ct cv hW0 hb0 hk h hR hT hf hv hl
   go_enter Tryz.func146, Tryz.ntmps146
   go_wp2_with (rw [HW.out])
   refine CT.out.mono ?_
   rintro e w5 ⟨rfl, hb⟩
   have HB5 := hid (below_of HB.out hb)
   clear hb
   go_wp2_with fail
   refine (CV.out _).mono ?_
   rintro e w6 ⟨rfl, rfl⟩
   go_wp2_with fail
   go_ret2
   exact ⟨rfl, HB5.out⟩
 rw [if_neg hf, if_neg hf]
 rw [hv, decide_eq_false hf] at cv
 obtain ⟨T, hT⟩ : ∃ T, textI (intD b N) = T := ⟨_, rfl⟩
 rw [hT] at ct cv
 have CT := hid ct; have CV := hid cv; have HW := hid hW0; have HB := hid hb0
 clear ct cv hW0 hb0 hk h hR hT hf hv hl
 go_enter Tryz.func146, Tryz.ntmps146
 go_wp2_with (rw [HW.out])
 refine CT.out.mono ?_
 rintro e w5 ⟨rfl, hb⟩
 have HB5 := hid (below_of HB.out hb)
 clear hb
 go_wp2_with fail
 refine (CV.out _).mono ?_
 rintro e w6 ⟨rfl, rfl⟩
 go_wp2_with fail
 go_ret2
 exact ⟨rfl, HB5.out⟩
theorem combine_plus (f : Int → Int → Int) (s t : ByteArray) (hs : s.size ≤ 1099511627776) (ht : t.size ≤ 1099511627776) (w : World) (hR : Ready w)
 (hf : ∀ x y, Fits x → Fits y → (grps (f x y).natAbs).length ≤ 200)
 (hc : ∀ W a1 m1 c1 a2 m2 c2, Ready W → m1 ≤ 50 → m2 ≤ 50 → NatAt W a1 m1 c1 (numB s).natAbs → NatAt W a2 m2 c2 (numB t).natAbs →
  Calls Tryz.prog 122 #[.agg #[.bool (decide (numB s < 0)), .slice a1 m1 c1], .agg #[.bool (decide (numB t < 0)), .slice a2 m2 c2]] W (NumPost W (f (numB s) (numB t)))) :
 Calls Tryz.prog 121 #[.string s, .string t, .func (.func 122) #[] #[]] w fun e w' => e = .returned (.tuple #[.string (opT f s t), .int .i64 (opZ f s t)]) ∧ Below w.heap.size w w' := by
 have cv1 := fun W => valid_w s hs W
 have cv2 := fun W => valid_w t ht W
 unfold opT opZ
 cases hv1 : validB s with
 | false =>
  rw [hv1] at cv1
  have CV1 := hid cv1
  clear cv1 cv2 hc hf hR hv1
  go_enter Tryz.func121, Tryz.ntmps121
  go_wp2_with fail
  refine (CV1.out _).mono ?_
  rintro e w1 ⟨rfl, rfl⟩
  go_wp2_with fail
  go_ret2
  exact ⟨rfl, Below.refl _ _⟩
 | true =>
  cases hv2 : validB t with
  | false =>
   rw [hv1] at cv1
   rw [hv2] at cv2
   have CV1 := hid cv1; have CV2 := hid cv2
   clear cv1 cv2 hc hf hR hv1 hv2
   go_enter Tryz.func121, Tryz.ntmps121
   go_wp2_with fail
   refine (CV1.out _).mono ?_
   rintro e w1 ⟨rfl, rfl⟩
   go_wp2_with fail
   refine (CV2.out _).mono ?_
   rintro e w1 ⟨rfl, rfl⟩
   go_wp2_with fail
   go_ret2
   exact ⟨rfl, Below.refl _ _⟩
  | true =>
   have n1 := fun W => numberOf_any s hv1 W
   have n2 := fun W => numberOf_any t hv2 W
   have g1 := fits_groups (text_valid hv1).1
   have g2 := fits_groups (text_valid hv2).1
   have hlen := hf _ _ (text_valid hv1).1 (text_valid hv2).1
   rw [hv1] at cv1
   rw [hv2] at cv2
   rw [show (true && true) = true from rfl, if_pos rfl, if_pos rfl]
   obtain ⟨X, hX⟩ : ∃ X, f (numB s) (numB t) = X := ⟨_, rfl⟩
   rw [hX] at hlen ⊢
   simp only [hX] at hc
   obtain ⟨N1, hN1⟩ : ∃ N, (numB s).natAbs = N := ⟨_, rfl⟩
   obtain ⟨N2, hN2⟩ : ∃ N, (numB t).natAbs = N := ⟨_, rfl⟩
   obtain ⟨b1, hb1⟩ : ∃ N, decide (numB s < 0) = N := ⟨_, rfl⟩
   obtain ⟨b2, hb2⟩ : ∃ N, decide (numB t < 0) = N := ⟨_, rfl⟩
   rw [hN1, hb1] at n1
   rw [hN2, hb2] at n2
   rw [hN1] at g1
   rw [hN2] at g2
   simp only [hN1, hN2, hb1, hb2] at hc
   have CV1 := hid cv1; have CV2 := hid cv2; have C1 := hid n1; have C2 := hid n2; have HC := hid hc; have HR := hid hR; have HL := hid hlen
   clear cv1 cv2 hc hf hR hv1 hv2 n1 n2 hX hN1 hN2 hb1 hb2 hlen
   go_enter Tryz.func121, Tryz.ntmps121
   go_wp2_with fail
   refine (CV1.out _).mono ?_
   rintro e w1 ⟨rfl, rfl⟩
   go_wp2_with fail
   refine (CV2.out _).mono ?_
   rintro e w1 ⟨rfl, rfl⟩
   go_wp2_with fail
   refine (C1.out _).mono ?_
   rintro e w1 ⟨ad1, m1, k1, rfl, h1, hw1⟩
   have H1 := hid h1; have HW1 := hid hw1
   clear h1 hw1
   go_wp2_with fail
   refine (C2.out _).mono ?_
   rintro e w2 ⟨ad2, m2, k2, rfl, h2, hw2⟩
   have hb12 := below_of HW1.out hw2
   have cf := HC.out w2 ad1 m1 k1 ad2 m2 k2 (HR.out.below hb12) (by have := H1.out.1; omega) (by have := h2.1; omega) (H1.out.below hw2 (Nat.le_refl _)) h2
   have CF := hid cf; have HB12 := hid hb12
   clear h2 hw2 hb12 cf H1 HW1
   go_wp2_with fail
   refine CF.out.mono ?_
   rintro e w3 ⟨neg, G, ad3, m3, k3, rfl, hg, h3, hw3⟩
   have hb13 := below_of HB12.out hw3
   have cr := result_any neg G ad3 m3 k3 w3 h3 (by have h4 := HL.out; rw [← hg, natAbs_intD, h3.1] at h4; omega) (HR.out.below hb13)
   rw [hg] at cr
   have CR := hid cr; have HB13 := hid hb13
   clear hg h3 hw3 hb13 cr CF
   go_wp2_with fail
   refine CR.out.mono ?_
   rintro e w4 ⟨rfl, hw4⟩
   have HB14 := hid (below_of HB13.out hw4)
   clear hw4 CR
   go_wp2_with fail
   go_ret2
   exact ⟨rfl, HB14.out⟩
theorem combine_minus (f : Int → Int → Int) (s t : ByteArray) (hs : s.size ≤ 1099511627776) (ht : t.size ≤ 1099511627776) (w : World) (hR : Ready w)
 (hf : ∀ x y, Fits x → Fits y → (grps (f x y).natAbs).length ≤ 200)
 (hc : ∀ W a1 m1 c1 a2 m2 c2, Ready W → m1 ≤ 50 → m2 ≤ 50 → NatAt W a1 m1 c1 (numB s).natAbs → NatAt W a2 m2 c2 (numB t).natAbs →
  Calls Tryz.prog 125 #[.agg #[.bool (decide (numB s < 0)), .slice a1 m1 c1], .agg #[.bool (decide (numB t < 0)), .slice a2 m2 c2]] W (NumPost W (f (numB s) (numB t)))) :
 Calls Tryz.prog 121 #[.string s, .string t, .func (.func 125) #[] #[]] w fun e w' => e = .returned (.tuple #[.string (opT f s t), .int .i64 (opZ f s t)]) ∧ Below w.heap.size w w' := by
 have cv1 := fun W => valid_w s hs W
 have cv2 := fun W => valid_w t ht W
 unfold opT opZ
 cases hv1 : validB s with
 | false =>
  rw [hv1] at cv1
  have CV1 := hid cv1
  clear cv1 cv2 hc hf hR hv1
  go_enter Tryz.func121, Tryz.ntmps121
  go_wp2_with fail
  refine (CV1.out _).mono ?_
  rintro e w1 ⟨rfl, rfl⟩
  go_wp2_with fail
  go_ret2
  exact ⟨rfl, Below.refl _ _⟩
 | true =>
  cases hv2 : validB t with
  | false =>
   rw [hv1] at cv1
   rw [hv2] at cv2
   have CV1 := hid cv1; have CV2 := hid cv2
   clear cv1 cv2 hc hf hR hv1 hv2
   go_enter Tryz.func121, Tryz.ntmps121
   go_wp2_with fail
   refine (CV1.out _).mono ?_
   rintro e w1 ⟨rfl, rfl⟩
   go_wp2_with fail
   refine (CV2.out _).mono ?_
   rintro e w1 ⟨rfl, rfl⟩
   go_wp2_with fail
   go_ret2
   exact ⟨rfl, Below.refl _ _⟩
  | true =>
   have n1 := fun W => numberOf_any s hv1 W
   have n2 := fun W => numberOf_any t hv2 W
   have g1 := fits_groups (text_valid hv1).1
   have g2 := fits_groups (text_valid hv2).1
   have hlen := hf _ _ (text_valid hv1).1 (text_valid hv2).1
   rw [hv1] at cv1
   rw [hv2] at cv2
   rw [show (true && true) = true from rfl, if_pos rfl, if_pos rfl]
   obtain ⟨X, hX⟩ : ∃ X, f (numB s) (numB t) = X := ⟨_, rfl⟩
   rw [hX] at hlen ⊢
   simp only [hX] at hc
   obtain ⟨N1, hN1⟩ : ∃ N, (numB s).natAbs = N := ⟨_, rfl⟩
   obtain ⟨N2, hN2⟩ : ∃ N, (numB t).natAbs = N := ⟨_, rfl⟩
   obtain ⟨b1, hb1⟩ : ∃ N, decide (numB s < 0) = N := ⟨_, rfl⟩
   obtain ⟨b2, hb2⟩ : ∃ N, decide (numB t < 0) = N := ⟨_, rfl⟩
   rw [hN1, hb1] at n1
   rw [hN2, hb2] at n2
   rw [hN1] at g1
   rw [hN2] at g2
   simp only [hN1, hN2, hb1, hb2] at hc
   have CV1 := hid cv1; have CV2 := hid cv2; have C1 := hid n1; have C2 := hid n2; have HC := hid hc; have HR := hid hR; have HL := hid hlen
   clear cv1 cv2 hc hf hR hv1 hv2 n1 n2 hX hN1 hN2 hb1 hb2 hlen
   go_enter Tryz.func121, Tryz.ntmps121
   go_wp2_with fail
   refine (CV1.out _).mono ?_
   rintro e w1 ⟨rfl, rfl⟩
   go_wp2_with fail
   refine (CV2.out _).mono ?_
   rintro e w1 ⟨rfl, rfl⟩
   go_wp2_with fail
   refine (C1.out _).mono ?_
   rintro e w1 ⟨ad1, m1, k1, rfl, h1, hw1⟩
   have H1 := hid h1; have HW1 := hid hw1
   clear h1 hw1
   go_wp2_with fail
   refine (C2.out _).mono ?_
   rintro e w2 ⟨ad2, m2, k2, rfl, h2, hw2⟩
   have hb12 := below_of HW1.out hw2
   have cf := HC.out w2 ad1 m1 k1 ad2 m2 k2 (HR.out.below hb12) (by have := H1.out.1; omega) (by have := h2.1; omega) (H1.out.below hw2 (Nat.le_refl _)) h2
   have CF := hid cf; have HB12 := hid hb12
   clear h2 hw2 hb12 cf H1 HW1
   go_wp2_with fail
   refine CF.out.mono ?_
   rintro e w3 ⟨neg, G, ad3, m3, k3, rfl, hg, h3, hw3⟩
   have hb13 := below_of HB12.out hw3
   have cr := result_any neg G ad3 m3 k3 w3 h3 (by have h4 := HL.out; rw [← hg, natAbs_intD, h3.1] at h4; omega) (HR.out.below hb13)
   rw [hg] at cr
   have CR := hid cr; have HB13 := hid hb13
   clear hg h3 hw3 hb13 cr CF
   go_wp2_with fail
   refine CR.out.mono ?_
   rintro e w4 ⟨rfl, hw4⟩
   have HB14 := hid (below_of HB13.out hw4)
   clear hw4 CR
   go_wp2_with fail
   go_ret2
   exact ⟨rfl, HB14.out⟩
theorem combine_times (f : Int → Int → Int) (s t : ByteArray) (hs : s.size ≤ 1099511627776) (ht : t.size ≤ 1099511627776) (w : World) (hR : Ready w)
 (hf : ∀ x y, Fits x → Fits y → (grps (f x y).natAbs).length ≤ 200)
 (hc : ∀ W a1 m1 c1 a2 m2 c2, Ready W → m1 ≤ 50 → m2 ≤ 50 → NatAt W a1 m1 c1 (numB s).natAbs → NatAt W a2 m2 c2 (numB t).natAbs →
  Calls Tryz.prog 145 #[.agg #[.bool (decide (numB s < 0)), .slice a1 m1 c1], .agg #[.bool (decide (numB t < 0)), .slice a2 m2 c2]] W (NumPost W (f (numB s) (numB t)))) :
 Calls Tryz.prog 121 #[.string s, .string t, .func (.func 145) #[] #[]] w fun e w' => e = .returned (.tuple #[.string (opT f s t), .int .i64 (opZ f s t)]) ∧ Below w.heap.size w w' := by
 have cv1 := fun W => valid_w s hs W
 have cv2 := fun W => valid_w t ht W
 unfold opT opZ
 cases hv1 : validB s with
 | false =>
  rw [hv1] at cv1
  have CV1 := hid cv1
  clear cv1 cv2 hc hf hR hv1
  go_enter Tryz.func121, Tryz.ntmps121
  go_wp2_with fail
  refine (CV1.out _).mono ?_
  rintro e w1 ⟨rfl, rfl⟩
  go_wp2_with fail
  go_ret2
  exact ⟨rfl, Below.refl _ _⟩
 | true =>
  cases hv2 : validB t with
  | false =>
   rw [hv1] at cv1
   rw [hv2] at cv2
   have CV1 := hid cv1; have CV2 := hid cv2
   clear cv1 cv2 hc hf hR hv1 hv2
   go_enter Tryz.func121, Tryz.ntmps121
   go_wp2_with fail
   refine (CV1.out _).mono ?_
   rintro e w1 ⟨rfl, rfl⟩
   go_wp2_with fail
   refine (CV2.out _).mono ?_
   rintro e w1 ⟨rfl, rfl⟩
   go_wp2_with fail
   go_ret2
   exact ⟨rfl, Below.refl _ _⟩
  | true =>
   have n1 := fun W => numberOf_any s hv1 W
   have n2 := fun W => numberOf_any t hv2 W
   have g1 := fits_groups (text_valid hv1).1
   have g2 := fits_groups (text_valid hv2).1
   have hlen := hf _ _ (text_valid hv1).1 (text_valid hv2).1
   rw [hv1] at cv1
   rw [hv2] at cv2
   rw [show (true && true) = true from rfl, if_pos rfl, if_pos rfl]
   obtain ⟨X, hX⟩ : ∃ X, f (numB s) (numB t) = X := ⟨_, rfl⟩
   rw [hX] at hlen ⊢
   simp only [hX] at hc
   obtain ⟨N1, hN1⟩ : ∃ N, (numB s).natAbs = N := ⟨_, rfl⟩
   obtain ⟨N2, hN2⟩ : ∃ N, (numB t).natAbs = N := ⟨_, rfl⟩
   obtain ⟨b1, hb1⟩ : ∃ N, decide (numB s < 0) = N := ⟨_, rfl⟩
   obtain ⟨b2, hb2⟩ : ∃ N, decide (numB t < 0) = N := ⟨_, rfl⟩
   rw [hN1, hb1] at n1
   rw [hN2, hb2] at n2
   rw [hN1] at g1
   rw [hN2] at g2
   simp only [hN1, hN2, hb1, hb2] at hc
   have CV1 := hid cv1; have CV2 := hid cv2; have C1 := hid n1; have C2 := hid n2; have HC := hid hc; have HR := hid hR; have HL := hid hlen
   clear cv1 cv2 hc hf hR hv1 hv2 n1 n2 hX hN1 hN2 hb1 hb2 hlen
   go_enter Tryz.func121, Tryz.ntmps121
   go_wp2_with fail
   refine (CV1.out _).mono ?_
   rintro e w1 ⟨rfl, rfl⟩
   go_wp2_with fail
   refine (CV2.out _).mono ?_
   rintro e w1 ⟨rfl, rfl⟩
   go_wp2_with fail
   refine (C1.out _).mono ?_
   rintro e w1 ⟨ad1, m1, k1, rfl, h1, hw1⟩
   have H1 := hid h1; have HW1 := hid hw1
   clear h1 hw1
   go_wp2_with fail
   refine (C2.out _).mono ?_
   rintro e w2 ⟨ad2, m2, k2, rfl, h2, hw2⟩
   have hb12 := below_of HW1.out hw2
   have cf := HC.out w2 ad1 m1 k1 ad2 m2 k2 (HR.out.below hb12) (by have := H1.out.1; omega) (by have := h2.1; omega) (H1.out.below hw2 (Nat.le_refl _)) h2
   have CF := hid cf; have HB12 := hid hb12
   clear h2 hw2 hb12 cf H1 HW1
   go_wp2_with fail
   refine CF.out.mono ?_
   rintro e w3 ⟨neg, G, ad3, m3, k3, rfl, hg, h3, hw3⟩
   have hb13 := below_of HB12.out hw3
   have cr := result_any neg G ad3 m3 k3 w3 h3 (by have h4 := HL.out; rw [← hg, natAbs_intD, h3.1] at h4; omega) (HR.out.below hb13)
   rw [hg] at cr
   have CR := hid cr; have HB13 := hid hb13
   clear hg h3 hw3 hb13 cr CF
   go_wp2_with fail
   refine CR.out.mono ?_
   rintro e w4 ⟨rfl, hw4⟩
   have HB14 := hid (below_of HB13.out hw4)
   clear hw4 CR
   go_wp2_with fail
   go_ret2
   exact ⟨rfl, HB14.out⟩
theorem combine_gcd (f : Int → Int → Int) (s t : ByteArray) (hs : s.size ≤ 1099511627776) (ht : t.size ≤ 1099511627776) (w : World) (hR : Ready w)
 (hf : ∀ x y, Fits x → Fits y → (grps (f x y).natAbs).length ≤ 200)
 (hc : ∀ W a1 m1 c1 a2 m2 c2, Ready W → m1 ≤ 50 → m2 ≤ 50 → NatAt W a1 m1 c1 (numB s).natAbs → NatAt W a2 m2 c2 (numB t).natAbs →
  Calls Tryz.prog 137 #[.agg #[.bool (decide (numB s < 0)), .slice a1 m1 c1], .agg #[.bool (decide (numB t < 0)), .slice a2 m2 c2]] W (NumPost W (f (numB s) (numB t)))) :
 Calls Tryz.prog 121 #[.string s, .string t, .func (.func 137) #[] #[]] w fun e w' => e = .returned (.tuple #[.string (opT f s t), .int .i64 (opZ f s t)]) ∧ Below w.heap.size w w' := by
 have cv1 := fun W => valid_w s hs W
 have cv2 := fun W => valid_w t ht W
 unfold opT opZ
 cases hv1 : validB s with
 | false =>
  rw [hv1] at cv1
  have CV1 := hid cv1
  clear cv1 cv2 hc hf hR hv1
  go_enter Tryz.func121, Tryz.ntmps121
  go_wp2_with fail
  refine (CV1.out _).mono ?_
  rintro e w1 ⟨rfl, rfl⟩
  go_wp2_with fail
  go_ret2
  exact ⟨rfl, Below.refl _ _⟩
 | true =>
  cases hv2 : validB t with
  | false =>
   rw [hv1] at cv1
   rw [hv2] at cv2
   have CV1 := hid cv1; have CV2 := hid cv2
   clear cv1 cv2 hc hf hR hv1 hv2
   go_enter Tryz.func121, Tryz.ntmps121
   go_wp2_with fail
   refine (CV1.out _).mono ?_
   rintro e w1 ⟨rfl, rfl⟩
   go_wp2_with fail
   refine (CV2.out _).mono ?_
   rintro e w1 ⟨rfl, rfl⟩
   go_wp2_with fail
   go_ret2
   exact ⟨rfl, Below.refl _ _⟩
  | true =>
   have n1 := fun W => numberOf_any s hv1 W
   have n2 := fun W => numberOf_any t hv2 W
   have g1 := fits_groups (text_valid hv1).1
   have g2 := fits_groups (text_valid hv2).1
   have hlen := hf _ _ (text_valid hv1).1 (text_valid hv2).1
   rw [hv1] at cv1
   rw [hv2] at cv2
   rw [show (true && true) = true from rfl, if_pos rfl, if_pos rfl]
   obtain ⟨X, hX⟩ : ∃ X, f (numB s) (numB t) = X := ⟨_, rfl⟩
   rw [hX] at hlen ⊢
   simp only [hX] at hc
   obtain ⟨N1, hN1⟩ : ∃ N, (numB s).natAbs = N := ⟨_, rfl⟩
   obtain ⟨N2, hN2⟩ : ∃ N, (numB t).natAbs = N := ⟨_, rfl⟩
   obtain ⟨b1, hb1⟩ : ∃ N, decide (numB s < 0) = N := ⟨_, rfl⟩
   obtain ⟨b2, hb2⟩ : ∃ N, decide (numB t < 0) = N := ⟨_, rfl⟩
   rw [hN1, hb1] at n1
   rw [hN2, hb2] at n2
   rw [hN1] at g1
   rw [hN2] at g2
   simp only [hN1, hN2, hb1, hb2] at hc
   have CV1 := hid cv1; have CV2 := hid cv2; have C1 := hid n1; have C2 := hid n2; have HC := hid hc; have HR := hid hR; have HL := hid hlen
   clear cv1 cv2 hc hf hR hv1 hv2 n1 n2 hX hN1 hN2 hb1 hb2 hlen
   go_enter Tryz.func121, Tryz.ntmps121
   go_wp2_with fail
   refine (CV1.out _).mono ?_
   rintro e w1 ⟨rfl, rfl⟩
   go_wp2_with fail
   refine (CV2.out _).mono ?_
   rintro e w1 ⟨rfl, rfl⟩
   go_wp2_with fail
   refine (C1.out _).mono ?_
   rintro e w1 ⟨ad1, m1, k1, rfl, h1, hw1⟩
   have H1 := hid h1; have HW1 := hid hw1
   clear h1 hw1
   go_wp2_with fail
   refine (C2.out _).mono ?_
   rintro e w2 ⟨ad2, m2, k2, rfl, h2, hw2⟩
   have hb12 := below_of HW1.out hw2
   have cf := HC.out w2 ad1 m1 k1 ad2 m2 k2 (HR.out.below hb12) (by have := H1.out.1; omega) (by have := h2.1; omega) (H1.out.below hw2 (Nat.le_refl _)) h2
   have CF := hid cf; have HB12 := hid hb12
   clear h2 hw2 hb12 cf H1 HW1
   go_wp2_with fail
   refine CF.out.mono ?_
   rintro e w3 ⟨neg, G, ad3, m3, k3, rfl, hg, h3, hw3⟩
   have hb13 := below_of HB12.out hw3
   have cr := result_any neg G ad3 m3 k3 w3 h3 (by have h4 := HL.out; rw [← hg, natAbs_intD, h3.1] at h4; omega) (HR.out.below hb13)
   rw [hg] at cr
   have CR := hid cr; have HB13 := hid hb13
   clear hg h3 hw3 hb13 cr CF
   go_wp2_with fail
   refine CR.out.mono ?_
   rintro e w4 ⟨rfl, hw4⟩
   have HB14 := hid (below_of HB13.out hw4)
   clear hw4 CR
   go_wp2_with fail
   go_ret2
   exact ⟨rfl, HB14.out⟩
end Go.Proofs.YtcglcgphgahnpaaGreatDoor
namespace Go.Proofs.YtcglcgphgahnpaaGreatDoor
open Go Go.Proofs Go.RowKit Go.Lib
theorem len_of_le {N A : Nat} {m : Nat} (h : N ≤ A) (hA : (grps A).length ≤ m) : (grps N).length ≤ m :=
 grps_length_le m N (Nat.lt_of_le_of_lt h ((grps_length_iff m A).1 hA))
theorem len_sum {A B : Nat} {m : Nat} (hA : (grps A).length ≤ m) (hB : (grps B).length ≤ m) : (grps (A + B)).length ≤ m + 1 := by
 apply grps_length_le
 have h1 := (grps_length_iff m A).1 hA
 have h2 := (grps_length_iff m B).1 hB
 rw [Nat.pow_succ]
 generalize 10000 ^ m = p at *
 omega
theorem len_prod {A B : Nat} {m n : Nat} (hA : (grps A).length ≤ m) (hB : (grps B).length ≤ n) : (grps (A * B)).length ≤ m + n := by
 apply grps_length_le
 have h1 := (grps_length_iff m A).1 hA
 have h2 := (grps_length_iff n B).1 hB
 rw [Nat.pow_add]
 exact Nat.mul_lt_mul'' h1 h2
theorem intD_decide (x : Int) : intD (decide (x < 0)) x.natAbs = x := intD_self x
theorem add_i (s t : ByteArray) (hs : s.size ≤ 1099511627776) (ht : t.size ≤ 1099511627776) (w : World) (hR : Ready w) :
 Calls Tryz.prog 90 #[.string s, .string t] w fun e w' => e = .returned (.tuple #[.string (opT (· + ·) s t), .int .i64 (opZ (· + ·) s t)]) ∧ Below w.heap.size w w' := by
 have c := combine_plus (· + ·) s t hs ht w hR (fun x y hx hy => Nat.le_trans (len_of_le (Int.natAbs_add_le x y) (len_sum (fits_groups hx) (fits_groups hy))) (by omega)) (fun W a1 m1 c1 a2 m2 c2 _ l1 l2 h1 h2 => by
  have := plusN_any (decide (numB s < 0)) (decide (numB t < 0)) _ _ a1 a2 m1 m2 c1 c2 W h1 h2 (by omega) (by omega)
  rw [intD_decide, intD_decide] at this
  exact this)
 obtain ⟨T, hT⟩ : ∃ T, opT (· + ·) s t = T := ⟨_, rfl⟩
 obtain ⟨Z, hZ⟩ : ∃ T, opZ (· + ·) s t = T := ⟨_, rfl⟩
 rw [hT, hZ] at c ⊢
 have C := hid c
 clear c hT hZ
 go_enter Tryz.func90, Tryz.ntmps90
 go_wp2_with fail
 refine C.out.mono ?_
 rintro e w1 ⟨rfl, b⟩
 go_wp2_with fail
 go_ret2
 exact ⟨rfl, b⟩
theorem sub_i (s t : ByteArray) (hs : s.size ≤ 1099511627776) (ht : t.size ≤ 1099511627776) (w : World) (hR : Ready w) :
 Calls Tryz.prog 93 #[.string s, .string t] w fun e w' => e = .returned (.tuple #[.string (opT (· - ·) s t), .int .i64 (opZ (· - ·) s t)]) ∧ Below w.heap.size w w' := by
 have c := combine_minus (· - ·) s t hs ht w hR (fun x y hx hy => Nat.le_trans (len_of_le (Int.natAbs_sub_le x y) (len_sum (fits_groups hx) (fits_groups hy))) (by omega)) (fun W a1 m1 c1 a2 m2 c2 _ l1 l2 h1 h2 => by
  have := minusN_any (decide (numB s < 0)) (decide (numB t < 0)) _ _ a1 a2 m1 m2 c1 c2 W h1 h2 (by omega) (by omega)
  rw [intD_decide, intD_decide] at this
  exact this)
 obtain ⟨T, hT⟩ : ∃ T, opT (· - ·) s t = T := ⟨_, rfl⟩
 obtain ⟨Z, hZ⟩ : ∃ T, opZ (· - ·) s t = T := ⟨_, rfl⟩
 rw [hT, hZ] at c ⊢
 have C := hid c
 clear c hT hZ
 go_enter Tryz.func93, Tryz.ntmps93
 go_wp2_with fail
 refine C.out.mono ?_
 rintro e w1 ⟨rfl, b⟩
 go_wp2_with fail
 go_ret2
 exact ⟨rfl, b⟩
theorem mul_i (s t : ByteArray) (hs : s.size ≤ 1099511627776) (ht : t.size ≤ 1099511627776) (w : World) (hR : Ready w) :
 Calls Tryz.prog 119 #[.string s, .string t] w fun e w' => e = .returned (.tuple #[.string (opT (· * ·) s t), .int .i64 (opZ (· * ·) s t)]) ∧ Below w.heap.size w w' := by
 have c := combine_times (· * ·) s t hs ht w hR (fun x y hx hy => Nat.le_trans (by rw [Int.natAbs_mul]; exact len_prod (fits_groups hx) (fits_groups hy)) (by omega)) (fun W a1 m1 c1 a2 m2 c2 _ l1 l2 h1 h2 => by
  have := timesN_any (decide (numB s < 0)) (decide (numB t < 0)) _ _ a1 a2 m1 m2 c1 c2 W h1 h2 (by omega)
  rw [intD_decide, intD_decide] at this
  exact this)
 obtain ⟨T, hT⟩ : ∃ T, opT (· * ·) s t = T := ⟨_, rfl⟩
 obtain ⟨Z, hZ⟩ : ∃ T, opZ (· * ·) s t = T := ⟨_, rfl⟩
 rw [hT, hZ] at c ⊢
 have C := hid c
 clear c hT hZ
 go_enter Tryz.func119, Tryz.ntmps119
 go_wp2_with fail
 refine C.out.mono ?_
 rintro e w1 ⟨rfl, b⟩
 go_wp2_with fail
 go_ret2
 exact ⟨rfl, b⟩
theorem gcd_le_sum (m n : Nat) : Nat.gcd m n ≤ m + n := by
 rcases Nat.eq_zero_or_pos m with h | h
 · subst h; rw [Nat.gcd_zero_left]; omega
 have := Nat.gcd_le_left n h; omega
theorem gcd_i (s t : ByteArray) (hs : s.size ≤ 1099511627776) (ht : t.size ≤ 1099511627776) (w : World) (hR : Ready w) :
 Calls Tryz.prog 107 #[.string s, .string t] w fun e w' => e = .returned (.tuple #[.string (opT gcdI s t), .int .i64 (opZ gcdI s t)]) ∧ Below w.heap.size w w' := by
 have c := combine_gcd gcdI s t hs ht w hR (fun x y hx hy => Nat.le_trans (len_of_le (show (gcdI x y).natAbs ≤ x.natAbs + y.natAbs by unfold gcdI; rw [Int.natAbs_natCast]; exact gcd_le_sum _ _) (len_sum (fits_groups hx) (fits_groups hy))) (by omega)) (fun W a1 m1 c1 a2 m2 c2 hW l1 l2 h1 h2 =>
  gcdN_any (decide (numB s < 0)) (decide (numB t < 0)) _ _ a1 a2 m1 m2 c1 c2 W h1 h2 (by omega) (by omega) hW)
 obtain ⟨T, hT⟩ : ∃ T, opT gcdI s t = T := ⟨_, rfl⟩
 obtain ⟨Z, hZ⟩ : ∃ T, opZ gcdI s t = T := ⟨_, rfl⟩
 rw [hT, hZ] at c ⊢
 have C := hid c
 clear c hT hZ
 go_enter Tryz.func107, Tryz.ntmps107
 go_wp2_with fail
 refine C.out.mono ?_
 rintro e w1 ⟨rfl, b⟩
 go_wp2_with fail
 go_ret2
 exact ⟨rfl, b⟩
theorem neg_pos {x : Int} (h : decide (x < 0) = true) : x.natAbs ≠ 0 := by
 have := of_decide_eq_true h
 omega
theorem cmp_i (s t : ByteArray) (hs : s.size ≤ 1099511627776) (ht : t.size ≤ 1099511627776) (w : World) (_ : Ready w) :
 Calls Tryz.prog 82 #[.string s, .string t] w fun e w' => e = .returned (.int .i64 (cmpB s t)) ∧ Below w.heap.size w w' := by
 have cv1 := fun W => valid_w s hs W
 have cv2 := fun W => valid_w t ht W
 unfold cmpB
 cases hv1 : validB s with
 | false =>
  rw [hv1] at cv1
  have CV1 := hid cv1
  clear cv1 cv2 hv1
  go_enter Tryz.func82, Tryz.ntmps82
  go_wp2_with fail
  refine (CV1.out _).mono ?_
  rintro e w1 ⟨rfl, rfl⟩
  go_wp2_with fail
  go_ret
  exact ⟨rfl, Below.refl _ _⟩
 | true =>
  cases hv2 : validB t with
  | false =>
   rw [hv1] at cv1
   rw [hv2] at cv2
   have CV1 := hid cv1; have CV2 := hid cv2
   clear cv1 cv2 hv1 hv2
   go_enter Tryz.func82, Tryz.ntmps82
   go_wp2_with fail
   refine (CV1.out _).mono ?_
   rintro e w1 ⟨rfl, rfl⟩
   go_wp2_with fail
   refine (CV2.out _).mono ?_
   rintro e w1 ⟨rfl, rfl⟩
   go_wp2_with fail
   go_ret
   exact ⟨rfl, Below.refl _ _⟩
  | true =>
   have n1 := fun W => numberOf_any s hv1 W
   have n2 := fun W => numberOf_any t hv2 W
   have cc := fun W a1 m1 c1 a2 m2 c2 h1 h2 => numCmp_any (decide (numB s < 0)) (decide (numB t < 0)) _ _ neg_pos neg_pos a1 a2 m1 m2 c1 c2 W h1 h2
   simp only [intD_decide] at cc
   rw [hv1] at cv1
   rw [hv2] at cv2
   rw [show (true && true) = true from rfl, if_pos rfl]
   rw [show (if numB s < numB t then (-1 : Int) else if numB t < numB s then 1 else 0) = sgnI (numB s) (numB t) from rfl]
   obtain ⟨X, hX⟩ : ∃ X, sgnI (numB s) (numB t) = X := ⟨_, rfl⟩
   rw [hX]
   simp only [hX] at cc
   obtain ⟨N1, hN1⟩ : ∃ N, (numB s).natAbs = N := ⟨_, rfl⟩
   obtain ⟨N2, hN2⟩ : ∃ N, (numB t).natAbs = N := ⟨_, rfl⟩
   obtain ⟨b1, hb1⟩ : ∃ N, decide (numB s < 0) = N := ⟨_, rfl⟩
   obtain ⟨b2, hb2⟩ : ∃ N, decide (numB t < 0) = N := ⟨_, rfl⟩
   rw [hN1, hb1] at n1
   rw [hN2, hb2] at n2
   simp only [hN1, hN2, hb1, hb2] at cc
   have CV1 := hid cv1; have CV2 := hid cv2; have C1 := hid n1; have C2 := hid n2; have HC := hid cc
   clear cv1 cv2 cc hv1 hv2 n1 n2 hX hN1 hN2 hb1 hb2
   go_enter Tryz.func82, Tryz.ntmps82
   go_wp2_with fail
   refine (CV1.out _).mono ?_
   rintro e w1 ⟨rfl, rfl⟩
   go_wp2_with fail
   refine (CV2.out _).mono ?_
   rintro e w1 ⟨rfl, rfl⟩
   go_wp2_with fail
   refine (C1.out _).mono ?_
   rintro e w1 ⟨ad1, m1, k1, rfl, h1, hw1⟩
   have H1 := hid h1; have HW1 := hid hw1
   clear h1 hw1
   go_wp2_with fail
   refine (C2.out _).mono ?_
   rintro e w2 ⟨ad2, m2, k2, rfl, h2, hw2⟩
   have cf := HC.out w2 ad1 m1 k1 ad2 m2 k2 (H1.out.below hw2 (Nat.le_refl _)) h2
   have CF := hid cf; have HB12 := hid (below_of HW1.out hw2)
   clear h2 hw2 cf H1 HW1
   go_wp2_with fail
   refine CF.out.mono ?_
   rintro e w3 ⟨rfl, hw3⟩
   have HB13 := hid (below_of HB12.out hw3)
   clear hw3 CF
   go_wp2_with fail
   go_ret
   exact ⟨rfl, HB13.out⟩
end Go.Proofs.YtcglcgphgahnpaaGreatDoor
namespace Go.Proofs.YtcglcgphgahnpaaGreatDoor
open Go Go.Proofs Go.RowKit Go.Lib
theorem zero_text {t : ByteArray} (h : validB t = true) : numB t = 0 ↔ t = ⟨#[48]⟩ := by
 constructor
 · intro e
   have := (text_valid h).2
   rw [e] at this
   exact this
 rintro rfl
 decide +kernel
theorem quot_fits {x y : Int} (hx : Fits x) : (x / y).natAbs < 10 ^ 200 := Nat.lt_of_le_of_lt (Int.natAbs_ediv_le_natAbs x y) hx
theorem div_i (s t : ByteArray) (hs : s.size ≤ 1099511627776) (ht : t.size ≤ 1099511627776) (w : World) (hR : Ready w) :
 Calls Tryz.prog 81 #[.string s, .string t] w fun e w' => e = .returned (.tuple #[.string (divQ s t), .string (divR s t), .int .i64 (divZ s t)]) ∧ Below w.heap.size w w' := by
 have cv1 := fun W => valid_w s hs W
 have cv2 := fun W => valid_w t ht W
 unfold divQ divR divZ
 cases hv1 : validB s with
 | false =>
  rw [hv1] at cv1
  have CV1 := hid cv1
  clear cv1 cv2 hv1 hR
  go_enter Tryz.func81, Tryz.ntmps81
  go_wp2_with fail
  refine (CV1.out _).mono ?_
  rintro e w1 ⟨rfl, rfl⟩
  go_wp2_with fail
  go_ret3
  exact ⟨rfl, Below.refl _ _⟩
 | true =>
  cases hv2 : validB t with
  | false =>
   rw [hv1] at cv1
   rw [hv2] at cv2
   have CV1 := hid cv1; have CV2 := hid cv2
   clear cv1 cv2 hv1 hv2 hR
   go_enter Tryz.func81, Tryz.ntmps81
   go_wp2_with fail
   refine (CV1.out _).mono ?_
   rintro e w1 ⟨rfl, rfl⟩
   go_wp2_with fail
   refine (CV2.out _).mono ?_
   rintro e w1 ⟨rfl, rfl⟩
   go_wp2_with fail
   go_ret3
   exact ⟨rfl, Below.refl _ _⟩
  | true =>
   have e1 : (t.toList == (⟨#[48]⟩ : ByteArray).toList) = decide (numB t = 0) := by rw [str_eq_iff]; exact decide_eq_decide.2 (zero_text hv2).symm
   have e3 : (t.toList == [48]) = decide (numB t = 0) := by rw [← list48]; exact e1
   by_cases hz : numB t = 0
   · rw [decide_eq_true hz] at e1 e3
     rw [decide_eq_false (show ¬ numB t ≠ 0 from fun h => h hz)]
     have e4 : t.toList = [48] := by simpa using e3
     rw [hv1] at cv1
     rw [hv2] at cv2
     have CV1 := hid cv1; have CV2 := hid cv2
     clear cv1 cv2 hv1 hv2 hR hz
     go_enter Tryz.func81, Tryz.ntmps81
     go_wp2_with fail
     refine (CV1.out _).mono ?_
     rintro e w1 ⟨rfl, rfl⟩
     go_wp2_with fail
     refine (CV2.out _).mono ?_
     rintro e w1 ⟨rfl, rfl⟩
     go_wp2_with fail
     go_ret3
     exact ⟨rfl, Below.refl _ _⟩
   rw [decide_eq_false hz] at e1 e3
   have e4 : t.toList ≠ [48] := by simpa using e3
   have hd0 : 0 < (numB t).natAbs := by omega
   have n1 := fun W => numberOf_any s hv1 W
   have n2 := fun W => numberOf_any t hv2 W
   have g1 := fits_groups (text_valid hv1).1
   have g2 := fits_groups (text_valid hv2).1
   have hqf := quot_fits (y := numB t) (text_valid hv1).1
   have hQl := len_of_le (Int.natAbs_ediv_le_natAbs (numB s) (numB t)) g1
   have hRl : (grps (numB s % numB t).natAbs).length ≤ 50 := by
    refine len_of_le (A := (numB t).natAbs) ?_ g2
    have h1 := Int.emod_nonneg (numB s) hz
    have h2 := Int.emod_lt (numB s) hz
    omega
   have cc := fun W a1 m1 c1 a2 m2 c2 (l1 : m1 ≤ 900) (l2 : m2 ≤ 900) h1 h2 => divN_any (decide (numB s < 0)) (decide (numB t < 0)) (numB s).natAbs (numB t).natAbs hd0 a1 a2 m1 m2 c1 c2 W h1 h2 l1 l2
   simp only [intD_decide] at cc
   rw [hv1] at cv1
   rw [hv2] at cv2
   rw [show (true && true && decide (numB t ≠ 0)) = true by simp [hz], if_pos rfl, if_pos rfl, if_pos rfl]
   unfold resT resR resZ
   rw [if_pos hqf, if_pos hqf, if_pos hqf]
   obtain ⟨X, hX⟩ : ∃ X, numB s / numB t = X := ⟨_, rfl⟩
   obtain ⟨Y, hY⟩ : ∃ X, numB s % numB t = X := ⟨_, rfl⟩
   rw [hX, hY]
   rw [hX] at hQl
   rw [hY] at hRl
   obtain ⟨T1, hT1⟩ : ∃ T, textI X = T := ⟨_, rfl⟩
   obtain ⟨T2, hT2⟩ : ∃ T, textI Y = T := ⟨_, rfl⟩
   rw [hT1, hT2]
   have HT1 := hid hT1; have HT2 := hid hT2
   clear hT1 hT2
   simp only [hX, hY] at cc
   obtain ⟨N1, hN1⟩ : ∃ N, (numB s).natAbs = N := ⟨_, rfl⟩
   obtain ⟨N2, hN2⟩ : ∃ N, (numB t).natAbs = N := ⟨_, rfl⟩
   obtain ⟨b1, hb1⟩ : ∃ N, decide (numB s < 0) = N := ⟨_, rfl⟩
   obtain ⟨b2, hb2⟩ : ∃ N, decide (numB t < 0) = N := ⟨_, rfl⟩
   rw [hN1, hb1] at n1
   rw [hN2, hb2] at n2
   rw [hN1] at g1
   rw [hN2] at g2
   simp only [hN1, hN2, hb1, hb2] at cc
   have CV1 := hid cv1; have CV2 := hid cv2; have C1 := hid n1; have C2 := hid n2; have HC := hid cc; have HR := hid hR; have HL := hid (And.intro hQl hRl)
   clear cv1 cv2 cc hv1 hv2 n1 n2 hX hY hN1 hN2 hb1 hb2 hz hd0 hqf hQl hRl hR
   go_enter Tryz.func81, Tryz.ntmps81
   go_wp2_with fail
   refine (CV1.out _).mono ?_
   rintro e w1 ⟨rfl, rfl⟩
   go_wp2_with fail
   refine (CV2.out _).mono ?_
   rintro e w1 ⟨rfl, rfl⟩
   go_wp2_with fail
   refine (C1.out _).mono ?_
   rintro e w1 ⟨ad1, m1, k1, rfl, h1, hw1⟩
   have H1 := hid h1; have HW1 := hid hw1
   clear h1 hw1
   go_wp2_with fail
   refine (C2.out _).mono ?_
   rintro e w2 ⟨ad2, m2, k2, rfl, h2, hw2⟩
   have cf := HC.out w2 ad1 m1 k1 ad2 m2 k2 (by have := H1.out.1; omega) (by have := h2.1; omega) (H1.out.below hw2 (Nat.le_refl _)) h2
   have CF := hid cf; have HB12 := hid (below_of HW1.out hw2)
   clear h2 hw2 cf H1 HW1
   go_wp2_with fail
   refine CF.out.mono ?_
   rintro e w3 ⟨bq, Nq, aq, mq, cq, Nr, ar, mr, cr, rfl, hq1, hr1, hq2, hr2, hw3⟩
   have hb13 := below_of HB12.out hw3
   obtain ⟨W4, hW4, hb4, k1', k2'⟩ := two_frame w3 bq false aq ar mq mr cq cr
   have kt1 := fun W (b : Below W4.heap.size W4 W) => numText_any bq Nq aq mq cq W ((hq2.below hb4 (Nat.le_refl _)).below b (Nat.le_refl _)) (by have h4 := HL.out.1; rw [← hq1, natAbs_intD, hq2.1] at h4; omega) (HR.out.below (below_of (below_of hb13 hb4) b))
   have kt2 := fun W (b : Below W4.heap.size W4 W) => numText_any false Nr ar mr cr W ((hr2.below hb4 (Nat.le_refl _)).below b (Nat.le_refl _)) (by have h4 := HL.out.2; rw [← hr1, Int.natAbs_natCast, hr2.1] at h4; omega) (HR.out.below (below_of (below_of hb13 hb4) b))
   rw [hq1] at kt1
   rw [show intD false Nr = ((Nr : Nat) : Int) from rfl, hr1] at kt2
   have hc4 := fun W (b : Below W4.heap.size W4 W) => show (W.cell? ⟨w3.heap.size, 0, none⟩ = some (.bool bq) ∧ W.cell? ⟨w3.heap.size, 1, none⟩ = some (.slice aq mq cq)) ∧ (W.cell? ⟨w3.heap.size + 1, 0, none⟩ = some (.bool false) ∧ W.cell? ⟨w3.heap.size + 1, 1, none⟩ = some (.slice ar mr cr)) from
    ⟨⟨(num_cells (num_kept k1' b)).1, (num_cells (num_kept k1' b)).2.1⟩, ⟨(num_cells (num_kept k2' b)).1, (num_cells (num_kept k2' b)).2.1⟩⟩
   rw [HT1.out] at kt1
   rw [HT2.out] at kt2
   have KT1 := hid kt1; have KT2 := hid kt2; have HC4 := hid hc4; have HW4 := hid hW4; have HB14 := hid (below_of hb13 hb4)
   clear hw3 CF kt1 kt2 hc4 hW4 hb4 k1' k2' hb13 hq1 hq2 hr1 hr2
   go_wp2_with fail
   rw [HW4.out]
   go_region_held3 (fun W => (W.cell? ⟨w3.heap.size, 0, none⟩ = some (.bool bq) ∧ W.cell? ⟨w3.heap.size, 1, none⟩ = some (.slice aq mq cq)) ∧ (W.cell? ⟨w3.heap.size + 1, 0, none⟩ = some (.bool false) ∧ W.cell? ⟨w3.heap.size + 1, 1, none⟩ = some (.slice ar mr cr)))
    (first | exact HC4.out _ ⟨rfl, rfl, rfl, Nat.le_refl _, fun _ _ => rfl⟩ | exact HC4.out _ hbA | exact HC4.out _ hbB)
    (first | (go_at_call 111; (with_reducible refine (KT1.out _ ?_).mono ?_); (first | exact ⟨rfl, rfl, rfl, Nat.le_refl _, fun _ _ => rfl⟩ | exact hbB); (rintro e wA ⟨rfl, hbA'⟩); (first | (have hbA := below_of hbB ⟨hbA'.os, hbA'.tape, hbA'.output, hbA'.size, hbA'.block⟩) | (have hbA : Below W4.heap.size W4 wA := ⟨hbA'.os, hbA'.tape, hbA'.output, hbA'.size, hbA'.block⟩))) | (go_at_call 111; (with_reducible refine (KT2.out _ ?_).mono ?_); (first | exact ⟨rfl, rfl, rfl, Nat.le_refl _, fun _ _ => rfl⟩ | exact hbA); (rintro e wB ⟨rfl, hbB'⟩); (first | (have hbB := below_of hbA ⟨hbB'.os, hbB'.tape, hbB'.output, hbB'.size, hbB'.block⟩) | (have hbB : Below W4.heap.size W4 wB := ⟨hbB'.os, hbB'.tape, hbB'.output, hbB'.size, hbB'.block⟩))))
   all_goals (
    go_wp2
    go_ret3
    first
     | exact ⟨rfl, below_of HB14.out hbB⟩
     | exact ⟨rfl, below_of HB14.out hbA⟩)
end Go.Proofs.YtcglcgphgahnpaaGreatDoor
namespace Go.Proofs.YtcglcgphgahnpaaGreatDoor
open Go Go.Proofs Go.RowKit Go.Lib
theorem lay1 (w : World) (x : Value) (xs : List Value) (t : TypeId) : ∃ W0, w.alloc (.cells (x :: xs).toArray t) = W0 ∧ Below w.heap.size w W0 ∧ W0.heap.size = w.heap.size + 1 ∧
 ∀ W, Below W0.heap.size W0 W → CellsAt W w.heap.size (x :: xs) := by
 obtain ⟨W1, h1⟩ : ∃ W, w.alloc (.cells (x :: xs).toArray t) = W := ⟨_, rfl⟩
 have s1 : W1.heap.size = w.heap.size + 1 := by rw [← h1]; simp
 have b1 : Below w.heap.size w W1 := by rw [← h1]; exact (Below.refl _ _).alloc (Nat.le_refl _) _
 have k1 : CellsAt W1 w.heap.size (x :: xs) := by rw [← h1]; exact cellsAt_new rfl
 exact ⟨W1, h1, b1, s1, fun W hb => k1.below hb⟩
theorem lay2 (w : World) (x : Value) (xs : List Value) (t : TypeId) (y : Value) (ys : List Value) (u : TypeId) :
 ∃ W0, (w.alloc (.cells (x :: xs).toArray t)).alloc (.cells (y :: ys).toArray u) = W0 ∧ Below w.heap.size w W0 ∧ W0.heap.size = w.heap.size + 1 + 1 ∧
 ∀ W, Below W0.heap.size W0 W → CellsAt W w.heap.size (x :: xs) ∧ CellsAt W (w.heap.size + 1) (y :: ys) := by
 obtain ⟨W1, h1, b1, s1, k1⟩ := lay1 w x xs t
 obtain ⟨W2, h2, b2, s2, k2⟩ := lay1 W1 y ys u
 rw [s1] at s2 k2
 exact ⟨W2, by rw [h1, h2], b1.trans (b2.mono b1.size), s2, fun W hb => ⟨k1 W (b2.trans (hb.mono b2.size)), k2 W hb⟩⟩
theorem lay3 (w : World) (x : Value) (xs : List Value) (t : TypeId) (y : Value) (ys : List Value) (u : TypeId) (z : Value) (zs : List Value) (v : TypeId) :
 ∃ W0, ((w.alloc (.cells (x :: xs).toArray t)).alloc (.cells (y :: ys).toArray u)).alloc (.cells (z :: zs).toArray v) = W0 ∧ Below w.heap.size w W0 ∧ W0.heap.size = w.heap.size + 1 + 1 + 1 ∧
 ∀ W, Below W0.heap.size W0 W → CellsAt W w.heap.size (x :: xs) ∧ CellsAt W (w.heap.size + 1) (y :: ys) ∧ CellsAt W (w.heap.size + 1 + 1) (z :: zs) := by
 obtain ⟨W1, h1, b1, s1, k1⟩ := lay2 w x xs t y ys u
 obtain ⟨W2, h2, b2, s2, k2⟩ := lay1 W1 z zs v
 rw [s1] at s2 k2
 exact ⟨W2, by rw [h1, h2], b1.trans (b2.mono b1.size), s2, fun W hb => ⟨(k1 W (b2.trans (hb.mono b2.size))).1, (k1 W (b2.trans (hb.mono b2.size))).2, k2 W hb⟩⟩
theorem lay4 (w : World) (x : Value) (xs : List Value) (t : TypeId) (y : Value) (ys : List Value) (u : TypeId) (z : Value) (zs : List Value) (v : TypeId) (q : Value) (qs : List Value) (r : TypeId) :
 ∃ W0, (((w.alloc (.cells (x :: xs).toArray t)).alloc (.cells (y :: ys).toArray u)).alloc (.cells (z :: zs).toArray v)).alloc (.cells (q :: qs).toArray r) = W0 ∧ Below w.heap.size w W0 ∧ W0.heap.size = w.heap.size + 1 + 1 + 1 + 1 ∧
 ∀ W, Below W0.heap.size W0 W → CellsAt W w.heap.size (x :: xs) ∧ CellsAt W (w.heap.size + 1) (y :: ys) ∧ CellsAt W (w.heap.size + 1 + 1) (z :: zs) ∧ CellsAt W (w.heap.size + 1 + 1 + 1) (q :: qs) := by
 obtain ⟨W1, h1, b1, s1, k1⟩ := lay3 w x xs t y ys u z zs v
 obtain ⟨W2, h2, b2, s2, k2⟩ := lay1 W1 q qs r
 rw [s1] at s2 k2
 exact ⟨W2, by rw [h1, h2], b1.trans (b2.mono b1.size), s2, fun W hb => ⟨(k1 W (b2.trans (hb.mono b2.size))).1, (k1 W (b2.trans (hb.mono b2.size))).2.1, (k1 W (b2.trans (hb.mono b2.size))).2.2, k2 W hb⟩⟩
theorem lay5 (w : World) (x : Value) (xs : List Value) (t : TypeId) (y : Value) (ys : List Value) (u : TypeId) (z : Value) (zs : List Value) (v : TypeId) (q : Value) (qs : List Value) (r : TypeId) (p : Value) (ps : List Value) (s : TypeId) :
 ∃ W0, ((((w.alloc (.cells (x :: xs).toArray t)).alloc (.cells (y :: ys).toArray u)).alloc (.cells (z :: zs).toArray v)).alloc (.cells (q :: qs).toArray r)).alloc (.cells (p :: ps).toArray s) = W0 ∧ Below w.heap.size w W0 ∧ W0.heap.size = w.heap.size + 1 + 1 + 1 + 1 + 1 ∧
 ∀ W, Below W0.heap.size W0 W → CellsAt W w.heap.size (x :: xs) ∧ CellsAt W (w.heap.size + 1) (y :: ys) ∧ CellsAt W (w.heap.size + 1 + 1) (z :: zs) ∧ CellsAt W (w.heap.size + 1 + 1 + 1) (q :: qs) ∧ CellsAt W (w.heap.size + 1 + 1 + 1 + 1) (p :: ps) := by
 obtain ⟨W1, h1, b1, s1, k1⟩ := lay4 w x xs t y ys u z zs v q qs r
 obtain ⟨W2, h2, b2, s2, k2⟩ := lay1 W1 p ps s
 rw [s1] at s2 k2
 exact ⟨W2, by rw [h1, h2], b1.trans (b2.mono b1.size), s2, fun W hb => ⟨(k1 W (b2.trans (hb.mono b2.size))).1, (k1 W (b2.trans (hb.mono b2.size))).2.1, (k1 W (b2.trans (hb.mono b2.size))).2.2.1, (k1 W (b2.trans (hb.mono b2.size))).2.2.2, k2 W hb⟩⟩
theorem two_facts {W : World} {B : Nat} {x y : Value} (h : CellsAt W B [x, y]) : (W.cell? ⟨B, 0, none⟩ = some x ∧ W.cell? ⟨B, 1, none⟩ = some y) ∧ (W.frozen? ⟨B, 0, none⟩ = false ∧ W.frozen? ⟨B, 1, none⟩ = false) :=
 ⟨⟨(h 0 (by simp)).1, (h 1 (by simp)).1⟩, (h 0 (by simp)).2, (h 1 (by simp)).2⟩
theorem one_facts {W : World} {B : Nat} {x : Value} (h : CellsAt W B [x]) : W.cell? ⟨B, 0, none⟩ = some x ∧ W.frozen? ⟨B, 0, none⟩ = false := h 0 (by simp)
theorem four_facts {W : World} {B : Nat} {x y z v : Value} (h : CellsAt W B [x, y, z, v]) :
 (W.cell? ⟨B, 0, none⟩ = some x ∧ W.cell? ⟨B, 1, none⟩ = some y ∧ W.cell? ⟨B, 2, none⟩ = some z ∧ W.cell? ⟨B, 3, none⟩ = some v) ∧
  (W.frozen? ⟨B, 0, none⟩ = false ∧ W.frozen? ⟨B, 1, none⟩ = false ∧ W.frozen? ⟨B, 2, none⟩ = false ∧ W.frozen? ⟨B, 3, none⟩ = false) :=
 ⟨⟨(h 0 (by simp)).1, (h 1 (by simp)).1, (h 2 (by simp)).1, (h 3 (by simp)).1⟩, (h 0 (by simp)).2, (h 1 (by simp)).2, (h 2 (by simp)).2, (h 3 (by simp)).2⟩
theorem six_facts {W : World} {B : Nat} {x y z v p q : Value} (h : CellsAt W B [x, y, z, v, p, q]) :
 (W.cell? ⟨B, 0, none⟩ = some x ∧ W.cell? ⟨B, 1, none⟩ = some y ∧ W.cell? ⟨B, 2, none⟩ = some z ∧ W.cell? ⟨B, 3, none⟩ = some v ∧ W.cell? ⟨B, 4, none⟩ = some p ∧ W.cell? ⟨B, 5, none⟩ = some q) ∧
  (W.frozen? ⟨B, 0, none⟩ = false ∧ W.frozen? ⟨B, 1, none⟩ = false ∧ W.frozen? ⟨B, 2, none⟩ = false ∧ W.frozen? ⟨B, 3, none⟩ = false ∧ W.frozen? ⟨B, 4, none⟩ = false ∧ W.frozen? ⟨B, 5, none⟩ = false) :=
 ⟨⟨(h 0 (by simp)).1, (h 1 (by simp)).1, (h 2 (by simp)).1, (h 3 (by simp)).1, (h 4 (by simp)).1, (h 5 (by simp)).1⟩, (h 0 (by simp)).2, (h 1 (by simp)).2, (h 2 (by simp)).2, (h 3 (by simp)).2, (h 4 (by simp)).2, (h 5 (by simp)).2⟩
theorem put1 {W : World} {B : Nat} {x : Value} (h : CellsAt W B [x]) (x' : Value) : CellsAt (W.setCell ⟨B, 0, none⟩ x') B [x'] := h.put 0 x'
theorem put2 {W : World} {B : Nat} {x y : Value} (h : CellsAt W B [x, y]) (x' y' : Value) : CellsAt ((W.setCell ⟨B, 0, none⟩ x').setCell ⟨B, 1, none⟩ y') B [x', y'] := (h.put 0 x').put 1 y'
theorem put4 {W : World} {B : Nat} {x y z v : Value} (h : CellsAt W B [x, y, z, v]) (x' y' z' v' : Value) : CellsAt ((((W.setCell ⟨B, 0, none⟩ x').setCell ⟨B, 1, none⟩ y').setCell ⟨B, 2, none⟩ z').setCell ⟨B, 3, none⟩ v') B [x', y', z', v'] := (((h.put 0 x').put 1 y').put 2 z').put 3 v'
theorem put6 {W : World} {B : Nat} {x y z v p q : Value} (h : CellsAt W B [x, y, z, v, p, q]) (x' y' z' v' p' q' : Value) :
 CellsAt ((((((W.setCell ⟨B, 0, none⟩ x').setCell ⟨B, 1, none⟩ y').setCell ⟨B, 2, none⟩ z').setCell ⟨B, 3, none⟩ v').setCell ⟨B, 4, none⟩ p').setCell ⟨B, 5, none⟩ q') B [x', y', z', v', p', q'] := (((((h.put 0 x').put 1 y').put 2 z').put 3 v').put 4 p').put 5 q'
theorem low1 {n : Nat} {w W : World} {B : Nat} (hB : n ≤ B) (h : Below n w W) (x' : Value) : Below n w (W.setCell ⟨B, 0, none⟩ x') := h.setCell (p := ⟨B, 0, none⟩) hB _
theorem low2 {n : Nat} {w W : World} {B : Nat} (hB : n ≤ B) (h : Below n w W) (x' y' : Value) : Below n w ((W.setCell ⟨B, 0, none⟩ x').setCell ⟨B, 1, none⟩ y') := (h.setCell (p := ⟨B, 0, none⟩) hB _).setCell (p := ⟨B, 1, none⟩) hB _
theorem low4 {n : Nat} {w W : World} {B : Nat} (hB : n ≤ B) (h : Below n w W) (x' y' z' v' : Value) : Below n w ((((W.setCell ⟨B, 0, none⟩ x').setCell ⟨B, 1, none⟩ y').setCell ⟨B, 2, none⟩ z').setCell ⟨B, 3, none⟩ v') :=
 (((h.setCell (p := ⟨B, 0, none⟩) hB _).setCell (p := ⟨B, 1, none⟩) hB _).setCell (p := ⟨B, 2, none⟩) hB _).setCell (p := ⟨B, 3, none⟩) hB _
theorem low6 {n : Nat} {w W : World} {B : Nat} (hB : n ≤ B) (h : Below n w W) (x' y' z' v' p' q' : Value) : Below n w ((((((W.setCell ⟨B, 0, none⟩ x').setCell ⟨B, 1, none⟩ y').setCell ⟨B, 2, none⟩ z').setCell ⟨B, 3, none⟩ v').setCell ⟨B, 4, none⟩ p').setCell ⟨B, 5, none⟩ q') :=
 (((((h.setCell (p := ⟨B, 0, none⟩) hB _).setCell (p := ⟨B, 1, none⟩) hB _).setCell (p := ⟨B, 2, none⟩) hB _).setCell (p := ⟨B, 3, none⟩) hB _).setCell (p := ⟨B, 4, none⟩) hB _).setCell (p := ⟨B, 5, none⟩) hB _
theorem far2 {W : World} {A B : Nat} {vs : List Value} (h : CellsAt W B vs) (hne : A ≠ B) (x y : Value) : CellsAt ((W.setCell ⟨A, 0, none⟩ x).setCell ⟨A, 1, none⟩ y) B vs := (h.far hne).far hne
theorem far4 {W : World} {A B : Nat} {vs : List Value} (h : CellsAt W B vs) (hne : A ≠ B) (x y z v : Value) : CellsAt ((((W.setCell ⟨A, 0, none⟩ x).setCell ⟨A, 1, none⟩ y).setCell ⟨A, 2, none⟩ z).setCell ⟨A, 3, none⟩ v) B vs := (((h.far hne).far hne).far hne).far hne
theorem far6 {W : World} {A B : Nat} {vs : List Value} (h : CellsAt W B vs) (hne : A ≠ B) (x y z v p q : Value) : CellsAt ((((((W.setCell ⟨A, 0, none⟩ x).setCell ⟨A, 1, none⟩ y).setCell ⟨A, 2, none⟩ z).setCell ⟨A, 3, none⟩ v).setCell ⟨A, 4, none⟩ p).setCell ⟨A, 5, none⟩ q) B vs :=
 (((((h.far hne).far hne).far hne).far hne).far hne).far hne
theorem idx4_0 (a b c d : Value) (w : World) : (Instr.index 28 (.agg #[a, b, c, d]) (.int .i64 0)).run Tryz.prog w = .ok a w := by kernel_rfl
theorem idx4_1 (a b c d : Value) (w : World) : (Instr.index 28 (.agg #[a, b, c, d]) (.int .i64 1)).run Tryz.prog w = .ok b w := by kernel_rfl
theorem idx4_2 (a b c d : Value) (w : World) : (Instr.index 28 (.agg #[a, b, c, d]) (.int .i64 2)).run Tryz.prog w = .ok c w := by kernel_rfl
theorem idx4_3 (a b c d : Value) (w : World) : (Instr.index 28 (.agg #[a, b, c, d]) (.int .i64 3)).run Tryz.prog w = .ok d w := by kernel_rfl
theorem idx2_0 (a b : Value) (w : World) : (Instr.index 52 (.agg #[a, b]) (.int .i64 0)).run Tryz.prog w = .ok a w := by kernel_rfl
theorem idx2_1 (a b : Value) (w : World) : (Instr.index 52 (.agg #[a, b]) (.int .i64 1)).run Tryz.prog w = .ok b w := by kernel_rfl
def wordB (i : Nat) : ByteArray := byteL (wordL i)
def WordsR (W : World) : Prop := ∀ i, i < 4 → W.cell? ⟨0, i, none⟩ = some (.string (wordB i))
theorem WordsR.below {w w' : World} (h : WordsR w) (b : Below w.heap.size w w') : WordsR w' := fun i hi => by
 have l := World.block_lt_of_cell? w ⟨0, 0, none⟩ (h 0 (by omega))
 exact (b.cell (p := ⟨0, i, none⟩) l).trans (h i hi)
def Set5 (W : World) : Prop := Ready W ∧ WordsR W
theorem Set5.below {w w' : World} (h : Set5 w) (b : Below w.heap.size w w') : Set5 w' := ⟨h.1.below b, h.2.below b⟩
end Go.Proofs.YtcglcgphgahnpaaGreatDoor
