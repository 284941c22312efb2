/-
  The contract of the iterator that digest.blocks returns: the blocks of the extended list are yielded in order.
-/
import Derived.Test.YtnpfhcnjkekhbaaGreatDoorProg
import Derived.Test.YtnpfhcnjkekhbaaGreatDoorK02
import Derived.Test.YtnpfhcnjkekhbaaGreatDoorK17
import Derived.Lib.Strings
import Derived.Shelf.Abstract
import Derived.LoopNIn
import Derived.LoopIn
import Derived.Laws.Rows
import Derived.Laws.CopyOwn
import Derived.Below
import Derived.OwnWalk
import Derived.RegionTactic
import Derived.ChangeAlike
import Derived.BigQuiet
import Derived.Deep.RegionWith
import Derived.Deep.CutRange
import Derived.Deep.DeepCutAuto
import Derived.Deep.RegionHeld3
import Derived.IntWalk
import Derived.Deep.QuietTactic
import Derived.WalkKit
import Derived.WalkLawsBesides
import Derived.Outline
import Derived.Lib.Hide
import Derived.Lib.EndianBits
import Derived.OwnWalkIn
import Derived.ControlIn
import Derived.WalkMore
import Derived.TacticsInMore
import Derived.Lib.SliceRun
import Derived.RangeFuncNested
import Derived.RangeFuncBound
import Derived.RangeFuncCalls
import Derived.RangeFuncLeaves
import Derived.RangeFuncRecord
set_option maxRecDepth 100000
set_option maxHeartbeats 16000000
namespace Go.Proofs.YtnpfhcnjkekhbaaGreatDoor
open Go Go.Proofs Go.RowKit Go.Lib
attribute [local go_sem] Oper.semAt_some
def catN (ss : List ByteArray) : List Nat := ss.flatMap natsOf
def PartsAt (W : World) (b : Nat) (ss : List ByteArray) : Prop := ∀ (i : Nat) (h : i < ss.length), W.cell? ⟨b, i, none⟩ = some (.string ss[i])
theorem PartsAt.below {n : Nat} {W W' : World} {b : Nat} {ss : List ByteArray} (h : PartsAt W b ss) (hb : Below n W W') (hn : b < n) : PartsAt W' b ss :=
 fun i hi => (hb.cell (p := ⟨b, i, none⟩) hn).trans (h i hi)
theorem PartsAt.same {W W' : World} {b : Nat} {ss : List ByteArray} (h : PartsAt W b ss) (hh : W'.heap[b]? = W.heap[b]?) : PartsAt W' b ss := by
 intro i hi
 rw [← h i hi]
 unfold World.cell?; simp only [hh]
theorem natsOf_length (s : ByteArray) : (natsOf s).length = s.size := by simp [natsOf]
theorem natsOf_lt (s : ByteArray) : ∀ x ∈ natsOf s, x < 256 := by
 intro x hx
 simp only [natsOf, List.mem_map] at hx
 obtain ⟨b, _, rfl⟩ := hx
 exact b.toNat_lt
theorem catN_lt (ss : List ByteArray) : ∀ x ∈ catN ss, x < 256 := by
 intro x hx
 simp only [catN, List.mem_flatMap] at hx
 obtain ⟨s, _, hx⟩ := hx
 exact natsOf_lt s x hx
theorem catN_take (ss : List ByteArray) (i : Nat) (h : i < ss.length) : catN (ss.take (i + 1)) = catN (ss.take i) ++ natsOf ss[i] := by
 rw [List.take_succ_eq_append_getElem h]; simp only [catN, List.flatMap_append, List.flatMap_cons, List.flatMap_nil, List.append_nil]
theorem catN_drop (ss : List ByteArray) (i : Nat) (h : i < ss.length) : (catN ss).drop (catN (ss.take i)).length = natsOf ss[i] ++ catN (ss.drop (i + 1)) := by
 have e2 : catN ss = catN (ss.take i) ++ catN (ss.drop i) := by
  show (ss.flatMap natsOf) = (ss.take i).flatMap natsOf ++ (ss.drop i).flatMap natsOf
  rw [← List.flatMap_append, List.take_append_drop]
 rw [e2, List.drop_left, List.drop_eq_getElem_cons h]
 simp only [catN, List.flatMap_cons]
theorem catN_le (ss : List ByteArray) (i : Nat) (h : i < ss.length) : (catN (ss.take i)).length + ss[i].size ≤ (catN ss).length := by
 have := congrArg List.length (catN_drop ss i h)
 simp only [List.length_drop, List.length_append, natsOf_length] at this
 by_cases h0 : (catN (ss.take i)).length ≤ (catN ss).length
 · omega
 · have e2 : catN ss = catN (ss.take i) ++ catN (ss.drop i) := by
    show (ss.flatMap natsOf) = (ss.take i).flatMap natsOf ++ (ss.drop i).flatMap natsOf
    rw [← List.flatMap_append, List.take_append_drop]
   rw [e2, List.length_append] at h0; omega
noncomputable def strLen (v : Value) : Nat := match v with | .string s => s.size | _ => 0
def Filled (M : List Nat) (e f : Nat) (l : List Nat) : Prop := l.length = 64 ∧ l.take f = (M.drop (64 * e)).take f
theorem fill_on {M l : List Nat} {e f n : Nat} {r : List Nat} (h : Filled M e f l) (hfn : f + n ≤ 64) (hr : r.take n = (M.drop (64 * e + f)).take n) (hrn : n ≤ r.length) :
 Filled M e (f + n) (l.take f ++ r.take n ++ l.drop (f + n)) := by
 obtain ⟨hl, h⟩ := h
 have e' : (M.drop (64 * e)).drop f = M.drop (64 * e + f) := by rw [List.drop_drop]
 refine ⟨by simp [hl]; omega, ?_⟩
 rw [List.take_append_of_le_length (by simp [hl]; omega), List.take_of_length_le (by simp; omega), List.take_add, e', ← hr, ← h]
theorem filled_blk {M l : List Nat} {e : Nat} (h : Filled M e 64 l) (hm : 64 * (e + 1) ≤ M.length) : l = blk M e := by
 have := h.2
 rw [List.take_of_length_le (by rw [h.1]; omega)] at this
 rw [blk_in M e hm]; exact this
theorem filled_zero (M : List Nat) (e : Nat) (l : List Nat) (h : l.length = 64) : Filled M e 0 l := ⟨h, by simp⟩
theorem slice_from (P : Program) (t : TypeId) (hu : P.underlying t = some .string) (s : ByteArray) (k : Nat) (hs : k ≤ s.size) (r : ByteArray) (hr : s.extract k s.size = r) (w : World) :
 (Instr.slice t (.string s) (some (.int .i64 (k : Nat))) none none).run P w = .ok (.string r) w := by
 subst hr
 have := run_slice_string_l (P := P) w t s hu .i64 (k : Int) (by omega) (by omega)
 simpa using this
theorem natsOf_extract (s : ByteArray) (k : Nat) : natsOf (s.extract k s.size) = (natsOf s).drop k := by
 unfold natsOf
 rw [Lib.extract_data, ← List.map_drop]
 congr 1
 apply List.take_of_length_le
 simp
theorem Is8.store' {W : World} {g : Nat} {t : TypeId} {l : List Nat} (h : Is8 W g t l) (i v : Nat) (x : Int) (hx : x = (v : Nat)) : Is8 (W.setCell ⟨g, i, none⟩ (.int .u8 x)) g t (l.set i v) := by
 subst hx; exact h.store i v
theorem slice64_all (w : World) (b : Nat) : (Instr.sliceAt 132 (.pointer (some ⟨b, 0, none⟩)) none none none).run Tryz.prog w = .ok (.slice (some ⟨b, 0, none⟩) 64 64) w := by
 have ha : Tryz.prog.arrayLen 132 = 64 := by kernel_rfl
 have ht : Tryz.prog.underlying 132 = some (.array (Tryz.prog.arrayLen 132) (Tryz.prog.elem 132)) := by kernel_rfl
 have hz : (Go.sizeOf (Tryz.prog.elem 132)).run Tryz.prog w = .ok 1 w := by kernel_rfl
 rw [run_sliceAt_array_all w _ _ ht, hz, ha]
 simp [Result.andThen, slicedAt, Addr.add]
theorem slice64 (w : World) (b k : Nat) (hk : k ≤ 64) :
 (Instr.sliceAt 132 (.pointer (some ⟨b, 0, none⟩)) (some (.int .i64 (k : Nat))) none none).run Tryz.prog w = .ok (.slice (some ⟨b, if k = 64 then 0 else k, none⟩) (64 - k) (64 - k)) w := by
 have ha : Tryz.prog.arrayLen 132 = 64 := by kernel_rfl
 have ht : Tryz.prog.underlying 132 = some (.array (Tryz.prog.arrayLen 132) (Tryz.prog.elem 132)) := by kernel_rfl
 have hz : (Go.sizeOf (Tryz.prog.elem 132)).run Tryz.prog w = .ok 1 w := by kernel_rfl
 rw [run_sliceAt_array_l w _ _ ht .i64 _ (by omega) (by rw [ha]; omega), hz, ha]
 by_cases h : k = 64
 · subst h; simp [Result.andThen, slicedAt]
 · have h2 : ¬ 64 = k := by omega
   simp [Result.andThen, slicedAt, Addr.add, h, h2]
   intro h3; omega
theorem blocks1_in (n l Bx Bp : Nat) (ss : List ByteArray) (hM : (catN ss).length ≤ 1152921504606846976) (hN : ss.length ≤ 1000000) (J : List (List Nat) → World → Prop) (W : World)
 (hset : ∀ s A A', J s A → Below W.heap.size A A' → J s A')
 (hY : ∀ pre x A, J pre A → W.heap.size ≤ A.heap.size → (pre ++ [x]) <+: shaBlocks (catN ss) → YieldAt Fence.wide (n - 1) Tryz.prog l #[.agg (u8s x)] A fun e A' =>
  e = .returned (.bool true) ∧ J (pre ++ [x]) A' ∧ A.heap.size ≤ A'.heap.size ∧ ∀ k, ((k = Bx ∨ k = Bp) ∨ (W.heap.size ≤ k ∧ k < A.heap.size)) → A'.heap[k]? = A.heap[k]?)
 (hbx : W.cell? ⟨Bx, 0, none⟩ = some (.slice (some ⟨Bp, 0, none⟩) ss.length ss.length)) (hp : PartsAt W Bp ss) (hx1 : Bx < W.heap.size) (hx2 : Bp < W.heap.size) (h0 : J [] W) :
 CallsIn Fence.wide n Tryz.prog 107 #[.func (.yield l) #[] #[], .pointer (some ⟨Bx, 0, none⟩)] W fun e W' => (∃ v, e = .returned v) ∧ J (shaBlocks (catN ss)) W' := by
 refine callsIn_of_wp Tryz.func107 rfl trivial ?_ rfl
 simp only [Tryz.ntmps107, List.size_toArray, List.length_cons, List.length_nil, Nat.reduceAdd, Nat.reduceSub, Array.replicate_succ, Array.replicate_zero, List.push_toArray, List.append_toArray, List.nil_append, List.cons_append]
 have HM := Lib.hid hM; have HP := Lib.hid hp
 clear hp hM
 gi_wp2
 refine wpIn_scope_straight ?_
 gi_wp2
 refine wpIn_label ?_
 change Exit.then _ _ _ _ (W.alloc (.cells (u8s (List.replicate 64 0)) 132))
 have hI : Is8 (W.alloc (.cells (u8s (List.replicate 64 0)) 132)) W.heap.size 132 (List.replicate 64 0) := heap_alloc_new W _
 have hsz : (W.alloc (.cells (u8s (List.replicate 64 0)) 132)).heap.size = W.heap.size + 1 := by simp
 have hbw : Below W.heap.size W (W.alloc (.cells (u8s (List.replicate 64 0)) 132)) := (Below.refl _ _).alloc (Nat.le_refl _) _
 obtain ⟨W1, hW1⟩ : ∃ V, W.alloc (.cells (u8s (List.replicate 64 0)) 132) = V := ⟨_, rfl⟩
 rw [hW1] at hI hsz hbw ⊢
 have hbx1 := (hbw.cell (p := ⟨Bx, 0, none⟩) hx1).trans hbx
 have HP1 : Hid (PartsAt W1 Bp ss) := fun i h => (hbw.cell (p := ⟨Bp, i, none⟩) hx2).trans (HP.out i h)
 have HJ : Hid (J [] W1) := hset _ _ _ h0 hbw
 obtain ⟨B, hB⟩ : ∃ B, W.heap.size = B := ⟨_, rfl⟩
 rw [hB] at hI hsz hx1 hx2 hset hY ⊢
 have HI := Lib.hid hI; have HS := Lib.hid hsz; have HSET := Lib.hid hset; have HY := Lib.hid hY
 clear hW1 hI hsz hbw hbx hB hset hY h0
 gi_wp2
 gi_loopw [4, 5, 12] (fun vf vl vi wr => ∃ (i c e f : Nat) (ls : List Nat), i ≤ ss.length ∧ vi = .int .i64 i ∧ Hid (c = (catN (ss.take i)).length) ∧ Hid (c = 64 * e + f) ∧ f < 64 ∧ vf = .int .i64 (f : Nat) ∧ vl = .int .u64 (c : Nat) ∧ Hid (Is8 wr B 132 ls) ∧ Hid (Filled (catN ss) e f ls) ∧
  Hid (J (cutB (shaPad (catN ss)) e) wr) ∧ Hid (PartsAt wr Bp ss) ∧ B < wr.heap.size)
  (fun _ _ vi _ => ss.length - (RowKit.intOf vi).toNat)
 case atStart => exact ⟨0, 0, 0, 0, _, Nat.zero_le _, rfl, (show 0 = _ by simp [catN]), rfl, by decide, rfl, rfl, HI.out, filled_zero _ _ _ (by simp), HJ.out, HP1.out, by have := HS.out; omega⟩
 case round =>
  obtain ⟨i, c, e, f, ls, hi, rfl, hc, hce, hf, rfl, rfl, hIs, hls, hJ, hPr, hBr⟩ := hrel
  by_cases hlt : i < ss.length
  · have hlt2 : (i : Int) < (ss.length : Int) := by omega
    have hcell := hPr.out i hlt
    have hcle := catN_le ss i hlt
    have hdrop := catN_drop ss i hlt
    have htake := catN_take ss i hlt
    rw [← hc.out] at hcle hdrop
    obtain ⟨S, hS⟩ : ∃ S, ss[i] = S := ⟨_, rfl⟩
    rw [hS] at hcell hcle hdrop htake
    have hMle := HM.out
    have hS1 : S.size ≤ 1152921504606846976 := by omega
    have hS2 : c ≤ 1152921504606846976 := by omega
    obtain ⟨cn, hcn0⟩ : ∃ cn, c + S.size = cn := ⟨_, rfl⟩
    have hcn : Hid (cn = (catN (ss.take (i + 1))).length) := (by rw [htake, List.length_append, natsOf_length, ← hc.out, hcn0] : cn = (catN (ss.take (i + 1))).length)
    have hrest : natsOf S = ((catN ss).drop c).take S.size := by rw [hdrop, ← natsOf_length S, List.take_left]
    have hcn2 : (c : Int) + (S.size : Int) = (cn : Int) := by omega
    have HR : Hid (c + S.size = cn ∧ natsOf S = ((catN ss).drop c).take S.size) := ⟨hcn0, hrest⟩
    have HL := Lib.hid hcle
    have HM1 : Hid (cn ≤ (catN ss).length) := (by omega : cn ≤ _)
    clear hdrop htake hS hrest hMle hcle hc hcn0
    gi_wp2
    gi_loopw [4, 7] (fun vf vr wq => ∃ (c e f : Nat) (rest : ByteArray) (ls : List Nat), Hid (c = 64 * e + f) ∧ f < 64 ∧ vf = .int .i64 (f : Nat) ∧ vr = .string rest ∧ rest.size ≤ 1152921504606846976 ∧ Hid (c + rest.size = cn ∧ natsOf rest = ((catN ss).drop c).take rest.size) ∧
     Hid (Is8 wq B 132 ls) ∧ Hid (Filled (catN ss) e f ls) ∧ Hid (J (cutB (shaPad (catN ss)) e) wq) ∧ Hid (PartsAt wq Bp ss) ∧ B < wq.heap.size)
     (fun _ vr _ => strLen vr)
    case atStart => exact ⟨c, e, f, S, ls, hce, hf, rfl, rfl, hS1, HR, hIs, hls, hJ, hPr, hBr⟩
    case round =>
     clear hce hf hIs hls hJ hPr hBr HR HL hcell hcn2 hS1 hS2
     obtain ⟨c1, e1, f1, rest, l1, hce, hf, rfl, rfl, hrs, HR, hIs, hls, hJ, hPr, hBr⟩ := hrel
     have hsl0 : ∀ w, (Instr.sliceAt 132 (.pointer (some ⟨B, 0, none⟩)) (some (.int .i64 (f1 : Nat))) none none).run Tryz.prog w = .ok (.slice (some ⟨B, f1, none⟩) (64 - f1) (64 - f1)) w := by
      intro w
      have := slice64 w B f1 (by omega)
      rwa [if_neg (by omega)] at this
     obtain ⟨m, hm⟩ : ∃ m, min rest.size (64 - f1) = m := ⟨_, rfl⟩
     have hm1 : m ≤ rest.size := by omega
     have hfm : f1 + m ≤ 64 := by omega
     obtain ⟨rest2, hr2⟩ : ∃ r, rest.extract m rest.size = r := ⟨_, rfl⟩
     have hsl := slice_from Tryz.prog 9 Tryz.underlying9 rest m hm1 rest2 hr2
     have hr2s : rest2.size = rest.size - m := by rw [← hr2]; simp
     have hr2n := natsOf_extract rest m
     rw [hr2] at hr2n
     obtain ⟨l2, hl2⟩ : ∃ l, l1.take f1 ++ (natsOf rest).take m ++ l1.drop (f1 + m) = l := ⟨_, rfl⟩
     have hfill : Filled (catN ss) e1 (f1 + m) l2 := by
      rw [← hl2]
      refine fill_on hls.out hfm ?_ (by rw [natsOf_length]; exact hm1)
      rw [HR.out.2, List.take_take, Nat.min_eq_left hm1, ← hce.out]
     have HF := Lib.hid hfill; have HL2 := Lib.hid hl2; have HMm := Lib.hid hm; have HN2 : Hid (rest2.size = rest.size - m ∧ natsOf rest2 = (natsOf rest).drop m) := ⟨hr2s, hr2n⟩
     have hl1l := hls.out.1
     clear hfill hl2 hr2 hr2s hr2n
     by_cases hfull : f1 + m < 64
     · have hms : m = rest.size := by omega
       have HMS := Lib.hid hms
       have hfull2 : (f1 : Int) + (m : Int) < 64 := by omega
       clear hm hms hl1l
       gi_wp2_with (refine fence_copy_bytes rfl (.tmp 22) (.tmp 23) 42 9 5 rfl Tryz.underlying42 Tryz.sizeOf5 B f1 (64 - f1) (64 - f1) rest l1 132 rfl rfl hIs.out m HMm.out (by rw [hls.out.1]; omega) l2 HL2.out ?_; intro w2 hI2 hb2)
       go_roundw
       case rel => exact ⟨i + 1, cn, e1, f1 + m, l2, by omega, by go_num, hcn, (by have h1 := HR.out.1; have h2 := hce.out; have h3 := HMS.out; omega : cn = 64 * e1 + (f1 + m)), hfull, by go_num, rfl, hI2, HF, HSET.out _ _ _ hJ.out hb2, hPr.out.below hb2 hx2, Nat.lt_of_lt_of_le hBr hb2.size⟩
       case measure => simp [RowKit.intOf]; omega
     · have hm64 : f1 + m = 64 := by omega
       have hMle : 64 * (e1 + 1) ≤ (catN ss).length := by have h1 := HR.out.1; have h2 := hce.out; have h3 := HM1.out; omega
       have hblk : l2 = blk (catN ss) e1 := filled_blk (by have := HF.out; rwa [hm64] at this) hMle
       have hstep := blocks_step (catN ss) e1 (by rw [nblk_eq]; split <;> omega)
       rw [← hblk] at hstep
       have hnx : cutB (shaPad (catN ss)) (e1 + 1) = cutB (shaPad (catN ss)) e1 ++ [l2] := by rw [blk_next, ← hblk]
       have hin : (Tryz.prog.info? 132).map (·.size) = some (u8s l2).size := by rw [u8s_size, HF.out.1]; kernel_rfl
       have hfull2 : (f1 : Int) + (m : Int) = 64 := by omega
       have hfull3 : ¬ (f1 : Int) + (m : Int) < 64 := by omega
       have hm0 : 0 < m := by omega
       have HST := Lib.hid hstep; have HNX := Lib.hid hnx; have HIN := Lib.hid hin; have H64 := Lib.hid hm64
       clear hm hl1l hm64 hMle hblk hstep hnx hin hfull2
       gi_wp2_with (first | (refine fence_copy_bytes rfl (.tmp 22) (.tmp 23) 42 9 5 rfl Tryz.underlying42 Tryz.sizeOf5 B f1 (64 - f1) (64 - f1) rest l1 132 rfl rfl hIs.out m HMm.out (by rw [hls.out.1]; omega) l2 HL2.out ?_; intro w2 hI2 hb2; obtain ⟨fn, tmps, assign, body, hy, hR⟩ := HY.out _ l2 w2 (HSET.out _ _ _ hJ.out hb2) (Nat.le_of_lt (Nat.lt_of_lt_of_le hBr hb2.size)) HST.out) | (refine fence_load_row rfl 132 (.tmp 3) rfl B rfl 132 (u8s l2) (0, 0) _ hI2.out Tryz.underlying132 rfl HIN.out ?_))
       refine ⟨(fun h => by cases h), hR.mono ?_⟩
       rintro en W3 ⟨rfl, hJ3, hsz3, hk3⟩
       have hBw2 : B < w2.heap.size := Nat.lt_of_lt_of_le hBr hb2.size
       have hI3 : Hid (Is8 W3 B 132 l2) := (hk3 B (.inr ⟨Nat.le_refl _, hBw2⟩)).trans hI2.out
       have hP3 : Hid (PartsAt W3 Bp ss) := (hPr.out.below hb2 hx2).same (hk3 Bp (.inl (.inr rfl)))
       have hJ4 : Hid (J (cutB (shaPad (catN ss)) (e1 + 1)) W3) := by rw [HNX.out]; exact hJ3
       have hRN : Hid (c1 + m + rest2.size = cn ∧ natsOf rest2 = ((catN ss).drop (c1 + m)).take rest2.size) := by
        have h1 := HR.out.1
        refine ⟨by rw [HN2.out.1]; omega, ?_⟩
        rw [HN2.out.2, HR.out.2, HN2.out.1, List.drop_take, List.drop_drop]
       have hrs2 : rest2.size ≤ 1152921504606846976 := by rw [HN2.out.1]; omega
       have hlt3 : rest2.size < rest.size := by rw [HN2.out.1]; omega
       have hsz4 : B < W3.heap.size := Nat.lt_of_lt_of_le hBw2 hsz3
       clear hy hR hJ3 hk3 hsz3 hBw2
       gi_wp2
       go_roundw
       case rel => exact ⟨c1 + m, e1 + 1, 0, rest2, l2, (by have h1 := hce.out; have h2 := H64.out; omega : c1 + m = 64 * (e1 + 1) + 0), by decide, rfl, rfl, hrs2, hRN, hI3, filled_zero _ _ _ HF.out.1, hJ4, hP3, hsz4⟩
       case measure => exact hlt3
  · have hiN : i = ss.length := by omega
    have hcM : c = (catN ss).length := by rw [hc.out, hiN, List.take_length]
    have hMle := HM.out
    have hc60 : c ≤ 1152921504606846976 := by omega
    have he : e = (catN ss).length / 64 := by have := hce.out; omega
    have hfm : f = (catN ss).length % 64 := by have := hce.out; omega
    have hcell := hIs.out.cell f (by rw [hls.out.1]; omega)
    have hfro := hIs.out.frozen f
    obtain ⟨old, ho⟩ : ∃ o, ls.getD f 0 = o := ⟨_, rfl⟩
    rw [ho] at hcell
    obtain ⟨q, hq⟩ : ∃ q, (if f + 1 = 64 then 0 else f + 1) = q := ⟨_, rfl⟩
    have hsl1 := fun w => slice64 w B (f + 1) (by omega)
    rw [hq, show 64 - (f + 1) = 63 - f by omega, show ((f + 1 : Nat) : Int) = (f : Int) + 1 by omega] at hsl1
    have hq2 : 0 < 63 - f → q = f + 1 := fun h => by rw [← hq, if_neg (by omega)]
    have hslA := fun w => slice64_all w B
    obtain ⟨l3, hl3⟩ : ∃ l, (catN ss).drop (64 * e) ++ (128 :: List.replicate (63 - f) 0) = l := ⟨_, rfl⟩
    have hdl : ((catN ss).drop (64 * e)).length = f := by have := hce.out; simp; omega
    have hl3l : l3.length = 64 := by rw [← hl3]; simp [hdl]; omega
    have hset3 : (ls.set f 128).take (f + 1) ++ List.replicate (63 - f) 0 ++ (ls.set f 128).drop (f + 1 + (63 - f)) = l3 := by
     have h1 := hls.out.2
     rw [List.take_of_length_le (l := (catN ss).drop (64 * e)) (by omega)] at h1
     have h2 := hls.out.1
     have e1 : (ls.set f 128).take (f + 1) = ls.take f ++ [128] := by
      rw [List.take_succ_eq_append_getElem (by simp; omega)]; simp [List.take_set]
      exact List.set_eq_of_length_le (by simp; omega)
     rw [List.drop_of_length_le (by simp; omega), List.append_nil, e1, h1, ← hl3]
     simp
    have hin : (Tryz.prog.info? 132).map (·.size) = some (u8s l3).size := by rw [u8s_size, hl3l]; kernel_rfl
    have HQ := Lib.hid hq2; have HL3 := Lib.hid hl3; have HS3 := Lib.hid hset3; have HE := Lib.hid he; have HFM := Lib.hid hfm; have HCM := Lib.hid hcM; have HIN := Lib.hid hin; have HLL := Lib.hid hl3l
    clear hiN hcM hMle he hfm ho hq hq2 hl3 hset3 hdl hin hl3l hc
    by_cases h56 : f < 56
    · have h56' : (f : Int) < 56 := by omega
      gi_wp2_with (refine fence_clear_bytes rfl (.tmp 42) 42 5 rfl Tryz.underlying42 Tryz.zeroValue5 B (f + 1) (63 - f) (63 - f) (some ⟨B, q, none⟩) (ls.set f 128) 132 rfl (fun h => by rw [HQ.out h]) (hIs.out.store' f 128 128 rfl) (by simp [hls.out.1]; omega) l3 HS3.out ?_; intro w2 hI2 hb2)
      have hJ2 : Hid (J (cutB (shaPad (catN ss)) e) w2) := HSET.out _ _ _ hJ.out (((Below.refl B wr).setCell (Nat.le_refl _) _).trans hb2)
      have hBw2 : B < w2.heap.size := Nat.lt_of_lt_of_le hBr (by have := hb2.size; simpa using this)
      have hbl : Hid (l3.take 56 ++ be8 (8 * c) = blk (catN ss) e) := by
       show l3.take 56 ++ be8 (8 * c) = blk (catN ss) e
       rw [HE.out, blk_end_lo (catN ss) (by rw [← HFM.out]; exact h56), ← HE.out, ← HFM.out, ← HCM.out, ← HL3.out]
       have hdl : ((catN ss).drop (64 * e)).length = f := by have := hce.out; have := HCM.out; simp; omega
       rw [List.take_append, List.take_of_length_le (by omega), hdl, show 56 - f = (55 - f) + 1 by omega, List.take_succ_cons, List.take_replicate, Nat.min_eq_left (by omega), List.append_assoc, List.cons_append]
      have hnb : Hid (nblk (catN ss) = e + 1) := by
       show nblk (catN ss) = e + 1
       rw [nblk_eq, if_pos (by rw [← HFM.out]; exact h56), ← HE.out]
      obtain ⟨E, hE⟩ : ∃ E, e = E := ⟨_, rfl⟩
      obtain ⟨l4, hl4⟩ : ∃ l, l3 = l := ⟨_, rfl⟩
      rw [hE] at hJ2 hbl hnb
      rw [hl4] at hbl hI2 HLL
      clear hE hl4 HIN
      gi_loopw [50] (fun vi wq => ∃ (j : Nat), j ≤ 8 ∧ vi = .int .i64 j ∧ Hid (Is8 wq B 132 (tailB l4 (8 * c) j)) ∧ Hid (J (cutB (shaPad (catN ss)) E) wq) ∧ B < wq.heap.size) (fun vi _ => 8 - (RowKit.intOf vi).toNat)
      case atStart => exact ⟨0, by decide, rfl, by rw [tailB_zero _ _ HLL.out]; exact hI2.out, hJ2, hBw2⟩
      case round =>
       obtain ⟨j, hj8, rfl, hIj, hJj, hBj⟩ := hrel
       by_cases hj : j < 8
       · have hj2 : (j : Int) < 8 := by omega
         have hcj := hIj.out.cell (63 - j) (by rw [tailB_length _ _ _ HLL.out hj8]; omega)
         have hfj := hIj.out.frozen (63 - j)
         obtain ⟨oj, hoj⟩ : ∃ o, (tailB l4 (8 * c) j).getD (63 - j) 0 = o := ⟨_, rfl⟩
         rw [hoj] at hcj
         clear hoj hcell hfro
         gi_wp2
         go_roundw
         case rel => exact ⟨j + 1, by omega, by go_num, by rw [← tailB_step l4 (8 * c) j HLL.out hj]; exact hIj.out.store' _ _ _ (by simp), HSET.out _ _ _ hJj.out ((Below.refl B _).setCell (Nat.le_refl _) _), by simpa using hBj⟩
         case measure => simp [RowKit.intOf]; omega
       · have hj8' : j = 8 := by omega
         have hI8 : Hid (Is8 wr B 132 (blk (catN ss) E)) := by
          have := hIj.out
          rw [hj8', tailB_end, hbl.out] at this
          exact this
         obtain ⟨fn, tmps, assign, body, hy, hR⟩ := HY.out _ (blk (catN ss) E) wr hJj.out (Nat.le_of_lt hBj) (blocks_step (catN ss) E (by rw [hnb.out]; omega))
         have hin : (Tryz.prog.info? 132).map (·.size) = some (u8s (blk (catN ss) E)).size := by rw [u8s_size, blk_length _ _ (by rw [hnb.out]; omega)]; kernel_rfl
         have HIN := Lib.hid hin
         clear hin hj8' hcell hfro
         gi_wp2_with (refine fence_load_row rfl 132 (.tmp 3) rfl B rfl 132 (u8s (blk (catN ss) E)) (0, 0) _ hI8.out Tryz.underlying132 rfl HIN.out ?_)
         refine ⟨(fun h => by cases h), hR.mono ?_⟩
         rintro en W9 ⟨rfl, hJ9, hsz9, hk9⟩
         rw [← blk_next] at hJ9
         have hJ10 : Hid (J (shaBlocks (catN ss)) W9) := by rw [← blocks_all, hnb.out]; exact hJ9
         clear hy hR hJ9 hk9 hsz9
         gi_wp2
         rw [Exit.noGoto_normal]
         go_end0
         exact ⟨⟨_, rfl⟩, hJ10.out⟩
    · have h56' : (56 : Int) ≤ (f : Int) := by omega
      have h56n : ¬ (f : Int) < 56 := by omega
      have hblk : l3 = blk (catN ss) e := by
       rw [HE.out, blk_end_hi (catN ss) (by rw [← HFM.out]; omega), ← HE.out, ← HFM.out, ← HL3.out]
      have hnb : Hid (nblk (catN ss) = e + 1 + 1) := by
       show nblk (catN ss) = e + 1 + 1
       rw [nblk_eq, if_neg (by rw [← HFM.out]; omega), ← HE.out]
      have hstep := blocks_step (catN ss) e (by rw [hnb.out]; omega)
      have hnx : cutB (shaPad (catN ss)) (e + 1) = cutB (shaPad (catN ss)) e ++ [l3] := by rw [blk_next, ← hblk]
      rw [← hblk] at hstep
      have HST := Lib.hid hstep; have HNX := Lib.hid hnx
      clear hblk hstep hnx
      gi_wp2_with (first | (refine fence_clear_bytes rfl (.tmp 42) 42 5 rfl Tryz.underlying42 Tryz.zeroValue5 B (f + 1) (63 - f) (63 - f) (some ⟨B, q, none⟩) (ls.set f 128) 132 rfl (fun h => by rw [HQ.out h]) (hIs.out.store' f 128 128 rfl) (by simp [hls.out.1]; omega) l3 HS3.out ?_; intro w2 hI2 hb2; obtain ⟨fn, tmps, assign, body, hy, hR⟩ := HY.out _ l3 w2 (HSET.out _ _ _ hJ.out (((Below.refl B wr).setCell (Nat.le_refl _) _).trans hb2)) (by have := hb2.size; simp at this; omega) HST.out) | (refine fence_load_row rfl 132 (.tmp 3) rfl B rfl 132 (u8s l3) (0, 0) _ hI2.out Tryz.underlying132 rfl HIN.out ?_))
      refine ⟨(fun h => by cases h), hR.mono ?_⟩
      rintro en W3 ⟨rfl, hJ3, hsz3, hk3⟩
      have hBw3 : B < w2.heap.size := Nat.lt_of_lt_of_le hBr (by have := hb2.size; simpa using this)
      have hI3 : Hid (Is8 W3 B 132 l3) := (hk3 B (.inr ⟨Nat.le_refl _, hBw3⟩)).trans hI2.out
      have hJ4 : Hid (J (cutB (shaPad (catN ss)) (e + 1)) W3) := by rw [HNX.out]; exact hJ3
      have hBw4 : B < W3.heap.size := Nat.lt_of_lt_of_le hBw3 hsz3
      clear hy hR hJ3 hk3 hsz3 hI2 hb2 hBw3
      gi_wp2_with (refine fence_clear_bytes rfl (.tmp 49) 42 5 rfl Tryz.underlying42 Tryz.zeroValue5 B 0 64 64 (some ⟨B, 0, none⟩) l3 132 rfl (fun _ => rfl) hI3.out (by rw [HLL.out]; decide) (List.replicate 64 0) (by rw [List.drop_of_length_le (by rw [HLL.out]; decide)]; simp) ?_; intro w5 hI2 hb2)
      have hJ2 : Hid (J (cutB (shaPad (catN ss)) (e + 1)) w5) := HSET.out _ _ _ hJ4.out hb2
      have hBw2 : B < w5.heap.size := Nat.lt_of_lt_of_le hBw4 hb2.size
      have hbl : Hid ((List.replicate 64 0).take 56 ++ be8 (8 * c) = blk (catN ss) (e + 1)) := by
       show (List.replicate 64 0).take 56 ++ be8 (8 * c) = blk (catN ss) (e + 1)
       rw [HE.out, blk_last_hi (catN ss) (by rw [← HFM.out]; omega), ← HCM.out, List.take_replicate]
       rfl
      have HLL2 : Hid ((List.replicate 64 0).length = 64) := (by simp : (List.replicate 64 0).length = 64)
      obtain ⟨E, hE⟩ : ∃ E, e + 1 = E := ⟨_, rfl⟩
      obtain ⟨l4, hl4⟩ : ∃ l, List.replicate 64 0 = l := ⟨_, rfl⟩
      rw [hE] at hJ2 hbl hnb
      rw [hl4] at hbl hI2 HLL2
      clear HLL HIN
      have HLL := HLL2
      clear HLL2
      clear hE hl4
      gi_loopw [50] (fun vi wq => ∃ (j : Nat), j ≤ 8 ∧ vi = .int .i64 j ∧ Hid (Is8 wq B 132 (tailB l4 (8 * c) j)) ∧ Hid (J (cutB (shaPad (catN ss)) E) wq) ∧ B < wq.heap.size) (fun vi _ => 8 - (RowKit.intOf vi).toNat)
      case atStart => exact ⟨0, by decide, rfl, by rw [tailB_zero _ _ HLL.out]; exact hI2.out, hJ2, hBw2⟩
      case round =>
       obtain ⟨j, hj8, rfl, hIj, hJj, hBj⟩ := hrel
       by_cases hj : j < 8
       · have hj2 : (j : Int) < 8 := by omega
         have hcj := hIj.out.cell (63 - j) (by rw [tailB_length _ _ _ HLL.out hj8]; omega)
         have hfj := hIj.out.frozen (63 - j)
         obtain ⟨oj, hoj⟩ : ∃ o, (tailB l4 (8 * c) j).getD (63 - j) 0 = o := ⟨_, rfl⟩
         rw [hoj] at hcj
         clear hoj hcell hfro
         gi_wp2
         go_roundw
         case rel => exact ⟨j + 1, by omega, by go_num, by rw [← tailB_step l4 (8 * c) j HLL.out hj]; exact hIj.out.store' _ _ _ (by simp), HSET.out _ _ _ hJj.out ((Below.refl B _).setCell (Nat.le_refl _) _), by simpa using hBj⟩
         case measure => simp [RowKit.intOf]; omega
       · have hj8' : j = 8 := by omega
         have hI8 : Hid (Is8 wr B 132 (blk (catN ss) E)) := by
          have := hIj.out
          rw [hj8', tailB_end, hbl.out] at this
          exact this
         obtain ⟨fn, tmps, assign, body, hy, hR⟩ := HY.out _ (blk (catN ss) E) wr hJj.out (Nat.le_of_lt hBj) (blocks_step (catN ss) E (by rw [hnb.out]; omega))
         have hin : (Tryz.prog.info? 132).map (·.size) = some (u8s (blk (catN ss) E)).size := by rw [u8s_size, blk_length _ _ (by rw [hnb.out]; omega)]; kernel_rfl
         have HIN := Lib.hid hin
         clear hin hj8' hcell hfro
         gi_wp2_with (refine fence_load_row rfl 132 (.tmp 3) rfl B rfl 132 (u8s (blk (catN ss) E)) (0, 0) _ hI8.out Tryz.underlying132 rfl HIN.out ?_)
         refine ⟨(fun h => by cases h), hR.mono ?_⟩
         rintro en W9 ⟨rfl, hJ9, hsz9, hk9⟩
         rw [← blk_next] at hJ9
         have hJ10 : Hid (J (shaBlocks (catN ss)) W9) := by rw [← blocks_all, hnb.out]; exact hJ9
         clear hy hR hJ9 hk9 hsz9
         gi_wp2
         rw [Exit.noGoto_normal]
         go_end0
         exact ⟨⟨_, rfl⟩, hJ10.out⟩
end Go.Proofs.YtnpfhcnjkekhbaaGreatDoor
