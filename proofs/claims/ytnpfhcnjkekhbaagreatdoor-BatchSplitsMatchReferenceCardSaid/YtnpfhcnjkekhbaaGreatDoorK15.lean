/-
  The contract of wire.PutInt: the LEB128 encoding of the zigzag of the number; out of range: the empty string and ErrWire.
-/
import Derived.Test.YtnpfhcnjkekhbaaGreatDoorProg
import Derived.Test.YtnpfhcnjkekhbaaGreatDoorK08
import Derived.Lib.SlBytesRow
import Derived.Shelf.Abstract
import Derived.WalkKit
import Derived.OwnWalkIn
import Derived.TacticsInMore
import Derived.LoopNIn
import Derived.LoopIn
import Derived.Outline
import Derived.Lib.Hide
import Derived.Lib.Varint
import Derived.RangeFuncNested
import Derived.RangeFuncBound
import Derived.RangeFuncCalls
import Derived.RangeFuncLeaves
set_option maxRecDepth 100000
set_option maxHeartbeats 16000000
namespace Go.Proofs.YtnpfhcnjkekhbaaGreatDoor.W1
open Go Go.Proofs Go.RowKit Go.Lib
attribute [local go_sem] Oper.semAt_some
def encS (x : Int) : ByteArray := ⟨(uvarint (zigzag x)).toArray⟩
def encN (pre : List Nat) (i : Nat) : Nat := (pre[i]?.map (· + 128)).getD 0
theorem encN_snoc (pre : List Nat) (x i : Nat) : encN (pre ++ [x]) i = if i = pre.length then x + 128 else encN pre i := by
 unfold encN
 by_cases h : i = pre.length
 · subst h; simp
 · rw [if_neg h]
   by_cases h2 : i < pre.length
   · rw [List.getElem?_append_left h2]
   · rw [List.getElem?_eq_none (by simp; omega), List.getElem?_eq_none (by omega)]
theorem encN_at (pre : List Nat) (i : Nat) (h : i < pre.length) : encN pre i = pre[i] + 128 := by
 unfold encN; rw [List.getElem?_eq_getElem h]; rfl
theorem encN_some (pre : List Nat) (i d : Nat) (h : pre[i]? = some d) : encN pre i = d + 128 := by
 unfold encN; rw [h]; rfl
theorem encN_out (pre : List Nat) (i : Nat) (h : pre.length ≤ i) : encN pre i = 0 := by
 unfold encN; rw [List.getElem?_eq_none h]; rfl
def PutInv (B : Nat) (w : World) (pre : List Nat) (W : World) : Prop :=
 (∀ i, i < 9 → W.cell? ⟨B, i, none⟩ = some (.int .u8 ((encN pre i : Nat) : Int)) ∧ W.frozen? ⟨B, i, none⟩ = false) ∧
 W.cell? ⟨B + 1, 0, none⟩ = some (.int .i64 ((pre.length : Nat) : Int)) ∧ W.frozen? ⟨B + 1, 0, none⟩ = false ∧ Below B w W
theorem PutInv.of_same {B : Nat} {w : World} {pre : List Nat} {A C : World} (h : PutInv B w pre A) (h1 : C.heap[B]? = A.heap[B]?) (h2 : C.heap[B + 1]? = A.heap[B + 1]?) (hb : Below B w C) : PutInv B w pre C :=
 ⟨fun i hi => ⟨(cell_of_same h1 i).trans (h.1 i hi).1, (frozen_of_same h1 i).trans (h.1 i hi).2⟩, (cell_of_same h2 0).trans h.2.1, (frozen_of_same h2 0).trans h.2.2.1, hb⟩
theorem nine_cells (W : World) (b : Nat) (t : TypeId) (h : W.heap[b]? = some (.cells #[.int .u8 0, .int .u8 0, .int .u8 0, .int .u8 0, .int .u8 0, .int .u8 0, .int .u8 0, .int .u8 0, .int .u8 0] t (0, 0))) :
 ∀ i, i < 9 → W.cell? ⟨b, i, none⟩ = some (.int .u8 ((encN [] i : Nat) : Int)) ∧ W.frozen? ⟨b, i, none⟩ = false := by
 intro i hi
 have e : encN [] i = 0 := encN_out [] i (by simp)
 rw [e]
 have : i = 0 ∨ i = 1 ∨ i = 2 ∨ i = 3 ∨ i = 4 ∨ i = 5 ∨ i = 6 ∨ i = 7 ∨ i = 8 := by omega
 rcases this with rfl | rfl | rfl | rfl | rfl | rfl | rfl | rfl | rfl <;> simp [World.cell?, World.frozen?, h]
theorem one_cell (W : World) (b : Nat) (t : TypeId) (v : Value) (h : W.heap[b]? = some (.cells #[v] t (0, 0))) : W.cell? ⟨b, 0, none⟩ = some v ∧ W.frozen? ⟨b, 0, none⟩ = false := by
 constructor <;> simp [World.cell?, World.frozen?, h]
theorem PutInv.step {B : Nat} {w : World} {pre : List Nat} {W : World} (h : PutInv B w pre W) (k : Nat) :
 PutInv B w (pre ++ [k]) ((W.setCell ⟨B, pre.length, none⟩ (.int .u8 ((k : Int) + 128))).setCell ⟨B + 1, 0, none⟩ (.int .i64 ((pre.length : Int) + 1))) := by
 obtain ⟨hc, hl, hlf, hb⟩ := h
 have n1 : ∀ i, (⟨B + 1, 0, none⟩ : Addr) ≠ ⟨B, i, none⟩ := fun i e => by injection e; omega
 have n2 : (⟨B, pre.length, none⟩ : Addr) ≠ ⟨B + 1, 0, none⟩ := fun e => by injection e; omega
 refine ⟨fun i hi => ⟨?_, ?_⟩, ?_, ?_, ?_⟩
 · refine (World.cell?_setCell_other _ _ _ _ (n1 i)).trans ?_
   rw [encN_snoc]
   by_cases e : i = pre.length
   · subst e
     rw [if_pos rfl, World.cell?_setCell_same _ _ _ (hc _ hi).1]
     simp
   · rw [if_neg e]
     exact (World.cell?_setCell_other _ _ _ _ (fun h => e (by injection h; omega))).trans (hc i hi).1
 · rw [World.frozen?_setCell, World.frozen?_setCell]; exact (hc i hi).2
 · refine (World.cell?_setCell_same _ _ _ (u := .int .i64 ((pre.length : Nat) : Int)) ((World.cell?_setCell_other _ _ _ _ n2).trans hl)).trans ?_
   simp
 · rw [World.frozen?_setCell, World.frozen?_setCell]; exact hlf
 · exact (hb.setCell (by simp) _).setCell (by simp) _
noncomputable def putW (w : World) (z : Nat) : World :=
 ((w.alloc (.cells #[.int .u8 0, .int .u8 0, .int .u8 0, .int .u8 0, .int .u8 0, .int .u8 0, .int .u8 0, .int .u8 0, .int .u8 0] 153)).alloc (.cells #[.int .i64 0] 3)).alloc (.cells #[.int .u64 (z : Nat)] 135)
theorem putW_size (w : World) (z : Nat) : (putW w z).heap.size = w.heap.size + 3 := by simp [putW]
theorem putW_0 (w : World) (z : Nat) : (putW w z).heap[w.heap.size]? = some (.cells #[.int .u8 0, .int .u8 0, .int .u8 0, .int .u8 0, .int .u8 0, .int .u8 0, .int .u8 0, .int .u8 0, .int .u8 0] 153 (0, 0)) := by
 unfold putW
 exact (Below.heap_alloc _ _ _ (by simp; omega)).trans ((Below.heap_alloc _ _ _ (by simp)).trans (World.alloc_heap_new w _))
theorem putW_1 (w : World) (z : Nat) : (putW w z).heap[w.heap.size + 1]? = some (.cells #[.int .i64 0] 3 (0, 0)) := by
 unfold putW
 refine (Below.heap_alloc _ _ _ (by simp)).trans ?_
 have := World.alloc_heap_new (w.alloc (.cells #[.int .u8 0, .int .u8 0, .int .u8 0, .int .u8 0, .int .u8 0, .int .u8 0, .int .u8 0, .int .u8 0, .int .u8 0] 153)) (.cells #[.int .i64 0] 3)
 rwa [World.size_alloc] at this
theorem putW_2 (w : World) (z : Nat) : (putW w z).heap[w.heap.size + 2]? = some (.cells #[.int .u64 (z : Nat)] 135 (0, 0)) := by
 unfold putW
 have := World.alloc_heap_new ((w.alloc (.cells #[.int .u8 0, .int .u8 0, .int .u8 0, .int .u8 0, .int .u8 0, .int .u8 0, .int .u8 0, .int .u8 0, .int .u8 0] 153)).alloc (.cells #[.int .i64 0] 3)) (.cells #[.int .u64 (z : Nat)] 135)
 rwa [World.size_alloc, World.size_alloc] at this
theorem putW_below (w : World) (z : Nat) : Below w.heap.size w (putW w z) := by
 unfold putW
 exact (((Below.refl _ _).alloc (Nat.le_refl _) _).alloc (by simp) _).alloc (by simp; omega) _
theorem putW_inv (w : World) (z : Nat) : PutInv w.heap.size w [] (putW w z) :=
 ⟨nine_cells _ _ _ (putW_0 w z), (one_cell _ _ _ _ (putW_1 w z)).1, (one_cell _ _ _ _ (putW_1 w z)).2, putW_below w z⟩
theorem slice9 (w : World) (b m : Nat) (hm : m + 1 ≤ 9) :
 (Instr.sliceAt 153 (.pointer (some ⟨b, 0, none⟩)) none (some (.int .i64 ((m : Int) + 1))) none).run Tryz.prog w = .ok (.slice (some ⟨b, 0, none⟩) (m + 1) 9) w := by
 have ha : Tryz.prog.arrayLen 153 = 9 := by kernel_rfl
 have ht : Tryz.prog.underlying 153 = some (.array (Tryz.prog.arrayLen 153) (Tryz.prog.elem 153)) := by kernel_rfl
 have hz : (Go.sizeOf (Tryz.prog.elem 153)).run Tryz.prog w = .ok 1 w := by kernel_rfl
 rw [run_sliceAt_array_h w _ _ ht .i64 _ (by omega) (by rw [ha]; omega), hz, ha]
 have e : ((m : Int) + 1).toNat = m + 1 := by omega
 simp [Result.andThen, slicedAt, e, Addr.add]
theorem encS_size (x : Int) : (encS x).size = (digs (zigzag x)).length := by
 show (uvarint (zigzag x)).toArray.size = _
 rw [List.size_toArray, uvarint_size]
theorem encS_get (x : Int) (i : Nat) (h : i < (encS x).size) (h' : i < (digs (zigzag x)).length) :
 (encS x)[i].toNat = if i + 1 < (digs (zigzag x)).length then (digs (zigzag x))[i] + 128 else (digs (zigzag x))[i] := by
 rw [← (uvarint_get (zigzag x)).2 i h' (by rw [uvarint_size]; exact h')]
 rfl
theorem PutInv.bytes {B : Nat} {w W : World} {x : Int} {m d : Nat} (h : PutInv B w (digs (zigzag x)) W) (hm : (digs (zigzag x)).length = m + 1) (hd : (digs (zigzag x))[m]? = some d) (h9 : m < 9) :
 Bytes (W.setCell ⟨B, m, none⟩ (.int .u8 (d : Int))) B 0 (encS x) := by
 intro i hi
 have hi' : i < (digs (zigzag x)).length := by rw [← encS_size]; exact hi
 rw [encS_get x i hi hi', Nat.zero_add]
 by_cases e : i = m
 · subst e
   rw [if_neg (by omega), World.cell?_setCell_same _ _ _ (h.1 i h9).1]
   rw [List.getElem?_eq_getElem hi'] at hd
   rw [Option.some.inj hd]
 · rw [if_pos (by omega)]
   refine (World.cell?_setCell_other _ _ _ _ (fun e' => e (by injection e'; omega))).trans ?_
   rw [(h.1 i (by omega)).1, encN_at _ _ hi']
theorem below_put {n₀ : Nat} {w A : World} (h : Below n₀ w A) (r : Nat) (o : Obj) (hr : n₀ ≤ r) (hs : r < A.heap.size) : Below n₀ w (A.putObj r o) :=
 h.trans ((Below.refl n₀ A).grown (grownBy_putObj' A r o) (by omega) (fun k e => by cases e; omega))
theorem putInt_in (n : Nat) (x : Int) (h0 : -4611686018427387903 ≤ x) (h1 : x ≤ 4611686018427387903) (w : World) :
 CallsIn Fence.wide n Tryz.prog 93 #[.int .i64 x] w fun e w' => e = .returned (.tuple #[.string (encS x), .int .i64 0]) ∧ Below w.heap.size w w' := by
 have hz64 : zigzag x < 9223372036854775807 := by unfold zigzag; split <;> omega
 have hlen := digs_length9 (z := zigzag x) (by omega)
 refine callsIn_of_wp_marks Tryz.func93 rfl trivial ?_ rfl
 simp only [Tryz.ntmps93, List.size_toArray, List.length_cons, List.length_nil, Nat.reduceAdd, Nat.reduceSub, Array.replicate_succ, Array.replicate_zero, List.push_toArray, List.append_toArray, List.nil_append, List.cons_append]
 gi_wp2_with (first | (refine ⟨trivial, (fun h => by cases h), ?_⟩; gi_at_call 111; refine (callsIn_wide.2 (fold_any _ h0 h1 _)).mono ?_; rintro e w' ⟨rfl, rfl⟩) | (refine ⟨trivial, (fun h => by cases h), ?_⟩; gi_at_call 110; refine (callsIn_wide.2 (groups_any _ _)).mono ?_; rintro e w' ⟨rfl, rfl⟩))
 generalize hz : zigzag x = z at *
 have hsz := putW_size w z
 have hs0 := putW_inv w z
 have hbx := one_cell _ _ _ _ (putW_2 w z)
 change Code.wpIn _ _ _ _ _ _ (putW w z)
 obtain ⟨W0, hW0⟩ : ∃ W0, putW w z = W0 := ⟨_, rfl⟩
 rw [hW0] at hsz hs0 hbx ⊢
 have HZ := Lib.hid hz
 clear hz
 refine rangeFunc_over (gf := 119) (lb := #[.pointer (some ⟨w.heap.size + 2, 0, none⟩)]) rfl (enters_of Tryz.func119 (by kernel_rfl) rfl)
  (fun k : Nat => #[Value.int .u8 (k : Nat)]) (fun _ => rfl) (digs z) (fun k => k = w.heap.size + 2) (fun k hk => by omega)
  ?seq (PutInv w.heap.size w) ?set ?put ?init
  (fun k : Nat => { tmps := #[.int .i64 x, undef, .string { data := #[] }, .int .i64 0, .pointer (some ⟨w.heap.size, 0, none⟩), .pointer (some ⟨w.heap.size + 1, 0, none⟩), .int .u8 (k : Nat), .int .i64 x, .bool (decide (x < -4611686018427387903)), .bool (decide (x < -4611686018427387903)), .int .i64 x, .bool (decide (4611686018427387903 < x)), .bool (decide (x < -4611686018427387903) || decide (4611686018427387903 < x)), .int .i64 x, .int .u64 (z : Nat), .func (.func 119) #[] #[.pointer (some ⟨w.heap.size + 1 + 1, 0, none⟩)], .int .u8 (k : Nat), undef, undef, undef, undef, undef, undef, undef, undef, undef, undef, undef, undef, undef, undef, undef], defers := [] })
  ?assign ?body ?done
 case seq =>
  intro l J W hset hY hJ hold
  exact groups1_in (n - 1) l (w.heap.size + 2) z (by omega) J hset hY W ((cell_of_same (hold _ (by omega)) 0).trans hbx.1) ((frozen_of_same (hold _ (by omega)) 0).trans hbx.2) hJ
 case set =>
  rintro s A b v rfl hi
  exact hi.of_same (Below.heap_setCell _ _ _ _ (by simp)) (Below.heap_setCell _ _ _ _ (by simp)) (hi.2.2.2.setCell (by simp) _)
 case put =>
  intro s A r o hr hlt hi
  exact hi.of_same (World.putObj_heap_other (by omega)) (World.putObj_heap_other (by omega)) (below_put hi.2.2.2 r o (by omega) hlt)
 case init =>
  intro o o'
  exact hs0.of_same ((Below.heap_alloc _ _ _ (by simp; omega)).trans (Below.heap_alloc _ _ _ (by omega))) ((Below.heap_alloc _ _ _ (by simp; omega)).trans (Below.heap_alloc _ _ _ (by omega))) (hs0.2.2.2.trans (((Below.refl _ _).alloc (by omega) _).alloc (by simp; omega) _))
 case assign =>
  intro l k W K hK
  gi_wp2
  exact hK
 case body =>
  intro l pre k W hi hpre
  have hk : k < 128 := digs_lt z k (hpre.subset (by simp))
  have hpl : pre.length < 9 := by have := hpre.length_le; simp at this; omega
  obtain ⟨hcells, hl, hlf, hB⟩ := hi
  obtain ⟨hc, hcf⟩ := hcells _ hpl
  rw [encN_out _ _ (Nat.le_refl _)] at hc
  have HI : Hid (PutInv w.heap.size w pre W) := Lib.hid ⟨hcells, hl, hlf, hB⟩
  clear hcells
  have hk2 : (k : Int) < 128 := by omega
  have hp2 : ((pre.length : Nat) : Int) < 9 := by omega
  gi_wp2
  refine ⟨fun j hj => ?_, HI.out.step k⟩
  rw [Below.heap_setCell _ _ _ _ (by show j ≠ w.heap.size + 1; omega), Below.heap_setCell _ _ _ _ (by show j ≠ w.heap.size; omega)]
 case done =>
  intro W hi hD
  obtain ⟨m, d, hm, hd⟩ := digs_last z
  have hl0 := hi.2.1
  have hlf := hi.2.2.1
  obtain ⟨hc, hcf⟩ := hi.1 m (by omega)
  have hd128 : d < 128 := digs_lt z d (List.mem_of_getElem? hd)
  rw [encN_some _ _ _ hd] at hc
  rw [hm] at hl0
  have e1 : ((m + 1 : Nat) : Int) = (m : Int) + 1 := by omega
  have e2 : ((d + 128 : Nat) : Int) = (d : Int) + 128 := by omega
  rw [e1] at hl0
  rw [e2] at hc
  have hm9 : (m : Int) < 9 := by omega
  have hd2 : (d : Int) < 128 := by omega
  have HI := Lib.hid hi
  have HM := Lib.hid hm
  have HD := Lib.hid hd
  clear hi hm hd e1 e2 hlen
  have hconv : (convert 42 9 (.slice (some ⟨w.heap.size, 0, none⟩) (m + 1) 9)).run Tryz.prog (W.setCell ⟨w.heap.size, m, none⟩ (.int .u8 (d : Int))) = .ok (.string (encS x)) (W.setCell ⟨w.heap.size, m, none⟩ (.int .u8 (d : Int))) := by
   have hsize : (encS x).size = m + 1 := by rw [encS_size, HZ.out]; exact HM.out
   rw [← hsize]
   exact run_convert_whole _ _ 5 _ Tryz.underlying42 Tryz.underlying5 Tryz.underlying9 _ _ _ (PutInv.bytes (x := x) (by rw [HZ.out]; exact HI.out) (by rw [HZ.out]; exact HM.out) (by rw [HZ.out]; exact HD.out) (by omega)) 9
  have hsl := fun w' b => slice9 w' b m (by omega)
  have hK2 : (W.setCell ⟨w.heap.size, m, none⟩ (.int .u8 (d : Int))).heap[W0.heap.size]? = some (.deferred (some [])) :=
   (Below.heap_setCell _ _ _ _ (by show W0.heap.size ≠ w.heap.size; omega)).trans hD
  have HK := Lib.hid hK2
  clear hK2
  have hB2 : Below w.heap.size w (W.setCell ⟨w.heap.size, m, none⟩ (.int .u8 (d : Int))) := HI.out.2.2.2.setCell (by simp) _
  dsimp only
  gi_wp2
  refine ⟨by simp, .inl ⟨_, _, rfl, run_takeDeferred HK.out, ?_⟩⟩
  exact ⟨_, results_tmp2 rfl _ _ _, rfl, below_put hB2 _ _ (by omega) (Array.getElem?_eq_some_iff.1 HK.out).1⟩
theorem putInt_yes (x : Int) (h0 : -4611686018427387903 ≤ x) (h1 : x ≤ 4611686018427387903) (w : World) :
 Calls Tryz.prog 93 #[.int .i64 x] w fun e w' => e = .returned (.tuple #[.string (encS x), .int .i64 0]) ∧ Below w.heap.size w w' :=
 callsIn_wide.1 (putInt_in 0 x h0 h1 w)
end Go.Proofs.YtnpfhcnjkekhbaaGreatDoor.W1
