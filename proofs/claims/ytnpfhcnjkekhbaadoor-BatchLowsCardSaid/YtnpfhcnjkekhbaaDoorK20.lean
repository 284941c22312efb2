/-
  The contract of digest.sumOf, and with it those of Sum, Leaf, Node and Chain. The contracts of digest.Sum, Leaf, Node and Chain.
-/
import Derived.Test.YtnpfhcnjkekhbaaDoorProg
import Derived.Test.YtnpfhcnjkekhbaaDoorK19
import Derived.RangeFuncBox
import Derived.Lib.ConvBytes
import Derived.Lib.SlBytesRow
import Derived.DefersIn
import Derived.Laws.Rows
import Derived.Laws.CopyOwn
import Derived.Below
import Derived.OwnWalk
import Derived.RegionTactic
import Derived.ChangeAlike
import Derived.BigQuiet
import Derived.Deep.RegionWith
import Derived.Deep.CutRange
import Derived.Deep.DeepCutAuto
import Derived.Deep.RegionHeld3
import Derived.IntWalk
import Derived.Deep.QuietTactic
import Derived.WalkKit
import Derived.WalkLawsBesides
import Derived.Outline
import Derived.Lib.Hide
import Derived.Lib.EndianBits
import Derived.Lib.Strings
import Derived.Shelf.Abstract
import Derived.LoopNIn
import Derived.LoopIn
import Derived.OwnWalkIn
import Derived.ControlIn
import Derived.WalkMore
import Derived.TacticsInMore
import Derived.Lib.SliceRun
import Derived.RangeFuncNested
import Derived.RangeFuncBound
import Derived.RangeFuncCalls
import Derived.RangeFuncLeaves
import Derived.RangeFuncRecord
set_option maxRecDepth 100000
set_option maxHeartbeats 16000000
namespace Go.Proofs.YtnpfhcnjkekhbaaDoor
open Go Go.Proofs Go.RowKit Go.Lib
attribute [local go_sem] Oper.semAt_some
def shaL (M : List Nat) : ByteArray := ⟨((shaN M).map Nat.toUInt8).toArray⟩
theorem sha_eq (s : ByteArray) : sha s = shaL (natsOf s) := rfl
theorem natsOf_append (a b : ByteArray) : natsOf (a ++ b) = natsOf a ++ natsOf b := by simp [natsOf, ByteArray.data_append]
theorem below_put {n₀ : Nat} {w A : World} (h : Below n₀ w A) (r : Nat) (o : Obj) (hr : n₀ ≤ r) (hs : r < A.heap.size) : Below n₀ w (A.putObj r o) :=
 h.trans ((Below.refl n₀ A).grown (grownBy_putObj' A r o) (by omega) (fun k e => by cases e; omega))
theorem Is32.put {W : World} {g : Nat} {t : TypeId} {l : List Nat} (h : Is32 W g t l) {r : Nat} (o : Obj) (hr : g ≠ r) : Is32 (W.putObj r o) g t l := (World.putObj_heap_other hr).trans h
theorem blocks_any (Bp N : Nat) (w : World) :
 Calls Tryd.prog 58 #[.slice (some ⟨Bp, 0, none⟩) N N] w fun e w' => e = .returned (.func (.func 76) #[] #[.pointer (some ⟨w.heap.size, 0, none⟩)]) ∧ w.alloc (.cells #[.slice (some ⟨Bp, 0, none⟩) N N] 94) = w' := by
 go_enter Tryd.func58, Tryd.ntmps58
 go_wp2
 go_ret
 exact ⟨rfl, rfl⟩
theorem shaIV_lt : ∀ x ∈ shaIV, x < 4294967296 := by decide
theorem fold_lt : ∀ (bs : List (List Nat)) (s : List Nat), (∀ x ∈ s, x < 4294967296) → ∀ x ∈ bs.foldl comp s, x < 4294967296
 | [], _, h => h
 | b :: bs, s, _ => fold_lt bs _ (comp_lt s b)
noncomputable def sumW (w : World) (Bp N : Nat) : World :=
 ((w.alloc (.cells (u32s (List.replicate 8 0)) 96)).setRow w.heap.size (u32s shaIV)).alloc (.cells #[.slice (some ⟨Bp, 0, none⟩) N N] 94)
theorem sumW_size (w : World) (Bp N : Nat) : (sumW w Bp N).heap.size = w.heap.size + 2 := by simp [sumW]
theorem sumW_0 (w : World) (Bp N : Nat) : Is32 (sumW w Bp N) w.heap.size 96 shaIV := by
 unfold Is32 sumW
 exact (Below.heap_alloc _ _ _ (by simp)).trans (setRow_heap _ _ _ _ _ _ (heap_alloc_new w _))
theorem sumW_1 (w : World) (Bp N : Nat) : (sumW w Bp N).heap[w.heap.size + 1]? = some (.cells #[.slice (some ⟨Bp, 0, none⟩) N N] 94 (0, 0)) := by
 unfold sumW
 have := heap_alloc_new ((w.alloc (.cells (u32s (List.replicate 8 0)) 96)).setRow w.heap.size (u32s shaIV)) (.cells #[.slice (some ⟨Bp, 0, none⟩) N N] 94)
 rwa [size_setRow, World.size_alloc] at this
theorem sumW_below (w : World) (Bp N : Nat) : Below w.heap.size w (sumW w Bp N) := by
 unfold sumW
 exact (below_setRow ((Below.refl _ _).alloc (Nat.le_refl _) _) (Nat.le_refl _) _).alloc (by simp) _
def SumInv (w : World) (B : Nat) (pre : List (List Nat)) (A : World) : Prop := Is32 A B 96 (pre.foldl comp shaIV) ∧ HasK A ∧ Below B w A
theorem word4s_get : ∀ (s : List Nat) (i j : Nat), i < s.length → j < 4 → (s.flatMap word4).getD (4 * i + j) 0 = s.getD i 0 / 2 ^ (24 - 8 * j) % 256
 | a :: s, 0, j, _, hj => by
  have : j = 0 ∨ j = 1 ∨ j = 2 ∨ j = 3 := by omega
  rcases this with rfl | rfl | rfl | rfl <;> simp [word4]
 | a :: s, i + 1, j, hi, hj => by
  have ih := word4s_get s i j (by simpa using hi) hj
  rw [List.flatMap_cons, List.getD_cons_succ, ← ih, List.getD_eq_getElem?_getD, List.getD_eq_getElem?_getD, List.getElem?_append_right (by simp [word4]; omega)]
  congr 2
  simp [word4]; omega
def digB (L : List Nat) (m : Nat) : List Nat := L.take m ++ List.replicate (32 - m) 0
theorem digB_length (L : List Nat) (h : L.length = 32) (m : Nat) (hm : m ≤ 32) : (digB L m).length = 32 := by simp [digB, h]; omega
theorem digB_step (L : List Nat) (h : L.length = 32) (m : Nat) (hm : m < 32) : (digB L m).set m (L.getD m 0) = digB L (m + 1) := by
 unfold digB
 have e : List.replicate (32 - m) 0 = 0 :: List.replicate (32 - (m + 1)) 0 := by
  rw [show 32 - m = (32 - (m + 1)) + 1 by omega, List.replicate_succ]
 rw [e, List.set_append_right _ _ (by simp; omega), show m - (L.take m).length = 0 by simp; omega, List.set_cons_zero, List.take_succ_eq_append_getElem (by omega), List.append_assoc]
 simp [List.getD_eq_getElem?_getD, h, hm]
theorem digB_all (L : List Nat) (h : L.length = 32) : digB L 32 = L := by unfold digB; rw [List.take_of_length_le (by omega)]; simp
theorem word4s_lt (s : List Nat) : ∀ x ∈ s.flatMap word4, x < 256 := by
 intro x hx
 simp only [List.mem_flatMap, word4, List.mem_cons, List.not_mem_nil, or_false] at hx
 obtain ⟨a, _, h⟩ := hx
 rcases h with rfl | rfl | rfl | rfl <;> exact Nat.mod_lt _ (by decide)
theorem bytes_shaL {W : World} {g : Nat} {t : TypeId} {M : List Nat} (h : Is8 W g t (shaN M)) : Bytes W g 0 (shaL M) := by
 intro i hi
 have hl : (shaL M).size = 32 := by
  show ((shaN M).map Nat.toUInt8).toArray.size = 32
  rw [List.size_toArray, List.length_map, shaN_length]
 rw [Nat.zero_add, h.cell i (by rw [shaN_length]; omega)]
 have hb : (shaN M).getD i 0 < 256 := getD_byte (word4s_lt _) i
 have e : ((shaL M)[i]).toNat = (shaN M).getD i 0 := by
  have e1 : (shaL M)[i] = ((shaN M).map Nat.toUInt8).toArray[i]'(by simp [shaN_length]; omega) := rfl
  rw [e1]
  have hi2 : i < (shaN M).length := by rw [shaN_length]; omega
  have e2 : (shaN M).getD i 0 = (shaN M)[i] := by simp [List.getD_eq_getElem?_getD, hi2]
  rw [e2] at hb ⊢
  simp
  omega
 rw [e]
theorem slice32_all (w : World) (b : Nat) : (Instr.sliceAt 102 (.pointer (some ⟨b, 0, none⟩)) none none none).run Tryd.prog w = .ok (.slice (some ⟨b, 0, none⟩) 32 32) w := by
 have ha : Tryd.prog.arrayLen 102 = 32 := by kernel_rfl
 have ht : Tryd.prog.underlying 102 = some (.array (Tryd.prog.arrayLen 102) (Tryd.prog.elem 102)) := by kernel_rfl
 have hz : (Go.sizeOf (Tryd.prog.elem 102)).run Tryd.prog w = .ok 1 w := by kernel_rfl
 rw [run_sliceAt_array_all w _ _ ht, hz, ha]
 simp [Result.andThen, slicedAt, Addr.add]
noncomputable def asgW (x : List Nat) (W : World) : World := (W.alloc (.cells (u8s (List.replicate 64 0)) 100)).setRow W.heap.size (u8s x)
theorem asgW_below (x : List Nat) (W : World) : Below W.heap.size W (asgW x W) := below_setRow ((Below.refl _ _).alloc (Nat.le_refl _) _) (Nat.le_refl _) _
theorem asgW_new (x : List Nat) (W : World) : Is8 (asgW x W) W.heap.size 100 x := setRow_heap _ _ _ _ _ _ (heap_alloc_new W _)
theorem sumOf_in (n Bp : Nat) (ss : List ByteArray) (hM : (catN ss).length ≤ 1152921504606846976) (hN : ss.length ≤ 1000000) (w : World) (hp : PartsAt w Bp ss) (hBp : Bp < w.heap.size) (hK : HasK w) (hG : 1 < w.heap.size) :
 CallsIn Fence.wide n Tryd.prog 39 #[.slice (some ⟨Bp, 0, none⟩) ss.length ss.length] w fun e w' => e = .returned (.string (shaL (catN ss))) ∧ Below w.heap.size w w' := by
 have hi60 : (Tryd.prog.info? 96).map (·.size) = some (u32s shaIV).size := by kernel_rfl
 refine callsIn_of_wp_marks Tryd.func39 rfl trivial ?_ rfl
 simp only [Tryd.ntmps39, List.size_toArray, List.length_cons, List.length_nil, Nat.reduceAdd, Nat.reduceSub, Array.replicate_succ, Array.replicate_zero, List.push_toArray, List.append_toArray, List.nil_append, List.cons_append]
 have HI := Lib.hid hi60; have HM := Lib.hid hM; have HP := Lib.hid hp; have HK := Lib.hid hK
 clear hi60 hM hp hK
 gi_wp2_with (first | (refine fence_store_row rfl 96 (.tmp 3) (.tmp 9) rfl w.heap.size (u32s shaIV) rfl rfl 96 _ (heap_alloc_new w _) HI.out rfl (u32s_one _) ?_) | (refine ⟨trivial, (fun h => by cases h), ?_⟩; gi_at_call 58; refine (callsIn_wide.2 (blocks_any _ _ _)).mono ?_; rintro e w' ⟨rfl, rfl⟩))
 change Code.wpIn _ _ _ _ _ _ (sumW w Bp ss.length)
 have hs := sumW_size w Bp ss.length
 have h0 := sumW_0 w Bp ss.length
 have h1 := sumW_1 w Bp ss.length
 have hbw := sumW_below w Bp ss.length
 obtain ⟨W4, hW4⟩ : ∃ V, sumW w Bp ss.length = V := ⟨_, rfl⟩
 rw [hW4] at hs h0 h1 hbw ⊢
 have hK4 := HK.out.below hbw hG
 have hP4 : PartsAt W4 Bp ss := HP.out.below hbw hBp
 obtain ⟨B, hB⟩ : ∃ B, w.heap.size = B := ⟨_, rfl⟩
 rw [hB] at hs h0 h1 hbw hBp hG ⊢
 have HB := Lib.hid hB
 clear hW4 hB
 refine rangeFunc_fresh (gf := 76) (lb := #[.pointer (some ⟨B + 1, 0, none⟩)]) rfl (enters_of Tryd.func76 (by kernel_rfl) rfl)
  (fun x : List Nat => #[Value.agg (u8s x)]) (fun _ => rfl) (shaBlocks (catN ss)) (fun k => k = B + 1 ∨ k = Bp) (fun k hk => by omega)
  ?seq (SumInv w B) ?set ?put ?init
  (fun x W => { tmps := #[.slice (some ⟨Bp, 0, none⟩) ss.length ss.length, undef, .string { data := #[] }, .pointer (some ⟨B, 0, none⟩), .pointer (some ⟨W.heap.size, 0, none⟩), undef, undef, undef, undef, .agg #[.int .u32 1779033703, .int .u32 3144134277, .int .u32 1013904242, .int .u32 2773480762, .int .u32 1359893119, .int .u32 2600822924, .int .u32 528734635, .int .u32 1541459225], .slice (some ⟨Bp, 0, none⟩) ss.length ss.length, .func (.func 76) #[] #[.pointer (some ⟨B + 1, 0, none⟩)], .agg (u8s x), undef, undef, undef, undef, undef, undef, undef, undef, undef, undef, undef, undef, undef, undef, undef, undef, undef, undef, undef, undef, undef, undef, undef, undef, undef, undef], defers := [] })
  asgW asgW_below ?assign ?body ?done
 case seq =>
  intro l J W hset hY hJ hold hsz
  have hc : W.cell? ⟨B + 1, 0, none⟩ = some (.slice (some ⟨Bp, 0, none⟩) ss.length ss.length) := by
   rw [cell_of_row W (B + 1) 0 _ _ _ ((hold _ (by omega)).trans h1)]; rfl
  exact blocks1_in (n - 1) l (B + 1) Bp ss HM.out hN J W hset hY hc (hP4.same (hold _ (by omega))) (by omega) (by omega) hJ
 case set =>
  rintro s A A' ⟨i1, i2, i3⟩ hb
  rw [hs] at hb
  exact ⟨i1.below hb (by omega), i2.below hb (by omega), i3.trans (hb.mono (by omega))⟩
 case put =>
  rintro s A r o hr hlt ⟨i1, i2, i3⟩
  exact ⟨i1.put o (by omega), i2.same (World.putObj_heap_other (by omega)), below_put i3 r o (by omega) hlt⟩
 case init =>
  intro o o'
  have hb2 : Below (B + 2) W4 ((W4.alloc o).alloc o') := ((Below.refl _ _).alloc (by omega) _).alloc (by simp; omega) _
  exact ⟨h0.below hb2 (by omega), hK4.below hb2 (by omega), hbw.trans (hb2.mono (by omega))⟩
 case assign =>
  intro l x W K hx hK
  have hx64 := (mem_blocks (catN_lt ss) x hx).1
  have hi64 : (Tryd.prog.info? 100).map (·.size) = some (u8s x).size := by rw [u8s_size, hx64]; kernel_rfl
  have HX := Lib.hid hx64; have HI64 := Lib.hid hi64
  clear hx64 hi64
  gi_wp2_with (refine fence_store_row rfl 100 (.tmp 4) (.tmp 12) rfl W.heap.size (u8s x) rfl rfl 100 _ (heap_alloc_new W _) HI64.out (by rw [u8s_size, HX.out]; rfl) (u8s_one _) ?_)
  exact hK
 case body =>
  intro l pre x W W' hi hsz hWs hWh hpre
  obtain ⟨i1, i2, i3⟩ := hi
  obtain ⟨hx64, hxlt⟩ := mem_blocks (catN_lt ss) x (hpre.subset (by simp))
  have i4 : Is8 W' W.heap.size 100 x := (hWh _ (Nat.le_refl _)).trans (asgW_new x W)
  have hW1 : W.heap.size + 1 = W'.heap.size := by rw [hWs]; simp [asgW]
  have hfold : (pre ++ [x]).foldl comp shaIV = comp (pre.foldl comp shaIV) x := by simp
  have hsl := foldl_comp_length pre shaIV rfl
  have hslt := fold_lt pre shaIV shaIV_lt
  obtain ⟨s, hse⟩ : ∃ s, pre.foldl comp shaIV = s := ⟨_, rfl⟩
  rw [hse] at i1 hsl hslt hfold
  have hi64 : (Tryd.prog.info? 100).map (·.size) = some (u8s x).size := by rw [u8s_size, hx64]; kernel_rfl
  have hi60 : (Tryd.prog.info? 96).map (·.size) = some (u32s s).size := by rw [u32s_size, hsl]; kernel_rfl
  have hi60' : (Tryd.prog.info? 96).map (·.size) = some (u32s (comp s x)).size := by rw [u32s_size, comp_length _ _ hsl]; kernel_rfl
  have H1 := Lib.hid i1; have H2 := Lib.hid i2; have H3 := Lib.hid i3; have H4 := Lib.hid i4; have HX := Lib.hid hx64; have HXL := Lib.hid hxlt; have HSL := Lib.hid hsl; have HSLT := Lib.hid hslt; have HFO := Lib.hid hfold
  have HI64 := Lib.hid hi64; have HI60 := Lib.hid hi60; have HI60' := Lib.hid hi60'; have HWS := Lib.hid hW1; have HS := Lib.hid hs
  clear i1 i2 i3 i4 hx64 hxlt hsl hslt hfold hi64 hi60 hi60' hW1 hWs hWh hse hpre hs
  have hBW : B < W'.heap.size := by have := HWS.out; have := HS.out; omega
  gi_wp2_with (first | (refine fence_load_row rfl 96 (.tmp 3) rfl B rfl 96 (u32s s) (0, 0) _ H1.out Tryd.underlying96 rfl HI60.out ?_) | (refine fence_load_row rfl 100 (.tmp 4) rfl W.heap.size rfl 100 (u8s x) (0, 0) _ H4.out Tryd.underlying100 rfl HI64.out ?_) | (refine ⟨trivial, (fun h => by cases h), ?_⟩; gi_at_call 59; refine (CallsIn.inRound l (callsIn_wide.2 (compress_any s x HSL.out HSLT.out HX.out HXL.out W' H2.out (by omega)))).mono ?_; rintro en W2 ⟨rfl, hb2⟩) | (refine fence_store_row rfl 96 (.tmp 3) (.tmp 15) rfl B (u32s (comp s x)) rfl rfl 96 (u32s s) (H1.out.below hb2 hBW) HI60'.out (by simp [comp_length _ _ HSL.out, HSL.out]) (u32s_one _) ?_))
  refine ⟨fun k hk => ?_, ?_, ?_⟩
  · have h1 := HWS.out
    have h2 := HS.out
    have hkB : k ≠ B ∧ k < W'.heap.size := by
     rcases hk with (h | h) | h | h | h <;> omega
    rw [setRow_other _ _ _ _ hkB.1, hb2.block k hkB.2]
  · rw [size_setRow]; exact hb2.size
  · exact ⟨by rw [HFO.out]; exact setRow_heap _ _ _ _ _ _ (H1.out.below hb2 hBW), (H2.out.below hb2 (by omega)).same (setRow_other _ _ _ _ (by omega)), below_setRow (H3.out.trans (hb2.mono (by omega))) (Nat.le_refl _) _⟩
 case done =>
  intro W hi hD
  obtain ⟨d1, d2, d3⟩ := hi
  have hsl := foldl_comp_length (shaBlocks (catN ss)) shaIV rfl
  have hslt := fold_lt (shaBlocks (catN ss)) shaIV shaIV_lt
  have hsN : shaN (catN ss) = ((shaBlocks (catN ss)).foldl comp shaIV).flatMap word4 := rfl
  obtain ⟨s, hse⟩ : ∃ s, (shaBlocks (catN ss)).foldl comp shaIV = s := ⟨_, rfl⟩
  rw [hse] at d1 hsl hslt hsN
  have hL32 := shaN_length (catN ss)
  obtain ⟨L, hLe⟩ : ∃ L, shaN (catN ss) = L := ⟨_, rfl⟩
  have hbyt : ∀ i j, i < 8 → j < 4 → L.getD (4 * i + j) 0 = s.getD i 0 / 2 ^ (24 - 8 * j) % 256 := fun i j hi hj => by rw [← hLe, hsN]; exact word4s_get s i j (by omega) hj
  rw [hLe] at hL32 hsN
  have hi60 : (Tryd.prog.info? 96).map (·.size) = some (u32s s).size := by rw [u32s_size, hsl]; kernel_rfl
  have hDlt : B + 2 < W.heap.size := by have := (Array.getElem?_eq_some_iff.1 hD).1; omega
  have hidx := fun i (hi : i < 8) => index32 (P := Tryd.prog) 96 95 s 8 hsl Tryd.underlying96 Tryd.isAgg95 Tryd.sizeOf95 i hi
  rw [hs] at hD
  have HLE := Lib.hid hLe; have HSL := Lib.hid hsl; have HSLT := Lib.hid hslt; have HL32 := Lib.hid hL32; have HBY := Lib.hid hbyt; have HI60 := Lib.hid hi60; have HIX := Lib.hid hidx; have HD := Lib.hid hD; have HS := Lib.hid hs
  have D1 := Lib.hid d1; have D3 := Lib.hid d3
  have hnew : Hid (Is8 (W.alloc (.cells (u8s (List.replicate 32 0)) 102)) W.heap.size 102 (List.replicate 32 0)) := heap_alloc_new W _
  clear hse hLe hsl hslt hsN hL32 hbyt hi60 hidx hD d1 d2 d3 h0 h1 hK4 hP4 hbw
  rw [HS.out]
  obtain ⟨D, hDe⟩ : ∃ D, W.heap.size = D := ⟨_, rfl⟩
  have HDE := Lib.hid hDe
  rw [hDe] at hDlt hnew
  clear hs
  dsimp only
  gi_wp2_with (refine fence_load_row rfl 96 (.tmp 3) rfl B rfl 96 (u32s s) (0, 0) _ (D1.out.below ((Below.refl W.heap.size W).alloc (Nat.le_refl _) _) (by omega)) Tryd.underlying96 rfl HI60.out ?_)
  gi_loopw [17] (fun vi wr => ∃ (i : Nat), i ≤ 8 ∧ vi = .int .i64 i ∧ Hid (Is8 wr D 102 (digB L (4 * i))) ∧ Hid (Below B w wr) ∧ Hid (wr.heap[B + 2]? = some (.deferred (some [])))) (fun vi _ => 8 - (RowKit.intOf vi).toNat)
  case atStart => exact ⟨0, by decide, rfl, by rw [show digB L (4 * 0) = List.replicate 32 0 by simp [digB]]; exact hnew.out, D3.out.alloc (by omega) _, (Below.heap_alloc _ _ _ (by omega)).trans HD.out⟩
  case round =>
   obtain ⟨i, hi8, rfl, hA, hB', hDf⟩ := hrel
   by_cases hi : i < 8
   · have hi2 : (i : Int) < 8 := by omega
     have hx := HIX.out i hi
     have hxl := getD_word HSLT.out i
     have hby := fun j hj => HBY.out i j hi hj
     obtain ⟨x, hxe⟩ : ∃ x, s.getD i 0 = x := ⟨_, rfl⟩
     rw [hxe] at hx hxl hby
     have HBYT := Lib.hid hby
     clear hxe hby
     gi_wp2
     gi_loopw [21] (fun vj wq => ∃ (j : Nat), j ≤ 4 ∧ vj = .int .i64 j ∧ Hid (Is8 wq D 102 (digB L (4 * i + j))) ∧ Hid (Below B w wq) ∧ Hid (wq.heap[B + 2]? = some (.deferred (some [])))) (fun vj _ => 4 - (RowKit.intOf vj).toNat)
     case atStart => exact ⟨0, by decide, rfl, hA, hB', hDf⟩
     case round =>
      clear hA hB' hDf
      obtain ⟨j, hj4, rfl, hA, hB', hDf⟩ := hrel
      by_cases hj : j < 4
      · have hj2 : (j : Int) < 4 := by omega
        have hcell := hA.out.cell (4 * i + j) (by rw [digB_length L HL32.out _ (by omega)]; omega)
        have hfro := hA.out.frozen (4 * i + j)
        obtain ⟨o, ho⟩ : ∃ o, (digB L (4 * i + j)).getD (4 * i + j) 0 = o := ⟨_, rfl⟩
        rw [ho] at hcell
        clear ho
        gi_wp2
        go_roundw
        case rel => exact ⟨j + 1, by omega, by go_num, by rw [show 4 * i + (j + 1) = 4 * i + j + 1 by omega, ← digB_step L HL32.out _ (by omega), HBYT.out j hj]; exact hA.out.store' _ _ _ (by simp), hB'.out.setCell (by show B ≤ D; omega) _, (Below.heap_setCell _ _ _ _ (by show B + 2 ≠ D; omega)).trans hDf.out⟩
        case measure => simp [RowKit.intOf]; omega
      · have hj4' : j = 4 := by omega
        have hA4 : Hid (Is8 wr D 102 (digB L (4 * (i + 1)))) := by have := hA.out; rwa [hj4', show 4 * i + 4 = 4 * (i + 1) by omega] at this
        clear hj4'
        gi_wp2
        go_roundw
        case rel => exact ⟨i + 1, by omega, by go_num, hA4, hB', hDf⟩
        case measure => simp [RowKit.intOf]; omega
   · have hi8' : i = 8 := by omega
     have hA8 := hA.out
     rw [hi8', show 4 * 8 = 32 by decide, digB_all L HL32.out, ← HLE.out] at hA8
     have hby := bytes_shaL hA8
     have hconv := run_convert_whole (P := Tryd.prog) wr 63 5 9 Tryd.underlying63 Tryd.underlying5 Tryd.underlying9 D 0 (shaL (catN ss)) hby 32
     have hsz : (shaL (catN ss)).size = 32 := by
      show ((shaN (catN ss)).map Nat.toUInt8).toArray.size = 32
      rw [List.size_toArray, List.length_map, shaN_length]
     rw [hsz] at hconv
     have hsla := fun w => slice32_all w D
     have HBw := Lib.hid hB'.out
     clear hi8' hA8 hby hsz
     gi_wp2
     refine ⟨by simp, .inl ⟨_, _, rfl, run_takeDeferred hDf.out, ?_⟩⟩
     exact ⟨_, results_tmp rfl _ _ _, ⟨rfl, by rw [HB.out]; exact below_put HBw.out _ _ (by omega) (Array.getElem?_eq_some_iff.1 hDf.out).1⟩⟩
theorem sumOf_any (Bp : Nat) (ss : List ByteArray) (hM : (catN ss).length ≤ 1152921504606846976) (hN : ss.length ≤ 1000000) (w : World) (hp : PartsAt w Bp ss) (hBp : Bp < w.heap.size) (hK : HasK w) (hG : 1 < w.heap.size) :
 Calls Tryd.prog 39 #[.slice (some ⟨Bp, 0, none⟩) ss.length ss.length] w fun e w' => e = .returned (.string (shaL (catN ss))) ∧ Below w.heap.size w w' :=
 callsIn_wide.1 (sumOf_in 0 Bp ss hM hN w hp hBp hK hG)
end Go.Proofs.YtnpfhcnjkekhbaaDoor

namespace Go.Proofs.YtnpfhcnjkekhbaaDoor
open Go Go.Proofs Go.RowKit Go.Lib
def Ready (w : World) : Prop := HasK w ∧ 1 < w.heap.size
theorem Ready.below {w w' : World} (h : Ready w) (hb : Below w.heap.size w w') : Ready w' := ⟨h.1.below hb h.2, Nat.lt_of_lt_of_le h.2 hb.size⟩
theorem Ready.ext {n : Nat} {w w' : World} (h : Ready w) (hn : n = w.heap.size) (hb : Below n w w') : Ready w' := h.below (hn ▸ hb)
theorem natsOf_tagged (t : UInt8) (s : ByteArray) : natsOf (tagged t s) = t.toNat :: natsOf s := by
 simp [tagged, natsOf, ByteArray.data_append]
theorem tagged_size (t : UInt8) (s : ByteArray) : (tagged t s).size = s.size + 1 := by
 rw [← natsOf_length, natsOf_tagged, List.length_cons, natsOf_length]
theorem part_new (w : World) (ss : List ByteArray) (t : TypeId) : PartsAt (w.alloc (.cells (ss.map Value.string).toArray t)) w.heap.size ss := by
 intro i hi
 rw [cell_of_row _ _ i _ _ _ (heap_alloc_new w _)]
 simp [hi]
theorem ready_alloc {w : World} (h : Ready w) (o : Obj) : Ready (w.alloc o) := h.below ((Below.refl _ _).alloc (Nat.le_refl _) _)
theorem sumOf_new (ss : List ByteArray) (hM : (catN ss).length ≤ 1152921504606846976) (hN : ss.length ≤ 1000000) (w : World) (hR : Ready w) (t : TypeId) :
 Calls Tryd.prog 39 #[.slice (some ⟨w.heap.size, 0, none⟩) ss.length ss.length] (w.alloc (.cells (ss.map Value.string).toArray t)) fun e w' => e = .returned (.string (shaL (catN ss))) ∧ Below w.heap.size w w' :=
 (sumOf_any w.heap.size ss hM hN _ (part_new w ss t) (by simp) (ready_alloc hR _).1 (ready_alloc hR _).2).mono fun _ _ h => ⟨h.1, ((Below.refl w.heap.size w).alloc (Nat.le_refl _) _).trans (h.2.mono (by simp))⟩
theorem chain_any (a b : ByteArray) (ha : a.size ≤ 1099511627776) (hb : b.size ≤ 1099511627776) (w : World) (hR : Ready w) :
 Calls Tryd.prog 18 #[.string a, .string b] w fun e w' => e = .returned (.string (chainF a b)) ∧ Below w.heap.size w w' := by
 have hc : catN [⟨#[2]⟩, a, b] = natsOf (tagged 2 (a ++ b)) := by rw [natsOf_tagged, natsOf_append]; simp [catN, natsOf]
 have c := sumOf_new [⟨#[2]⟩, a, b] (by rw [hc, natsOf_length, tagged_size]; (try rw [ByteArray.size_append]); omega) (by simp) w hR 9
 rw [hc, ← sha_eq] at c
 have C := Lib.hid (show Calls Tryd.prog 39 #[.slice (some ⟨w.heap.size, 0, none⟩) 3 3] (w.alloc (.cells #[.string ⟨#[2]⟩, .string a, .string b] 9)) _ from c)
 clear c hc
 go_enter Tryd.func18, Tryd.ntmps18
 go_wp2_with fail
 refine C.out.mono ?_
 rintro e w' ⟨rfl, hb⟩
 go_wp2
 go_ret
 exact ⟨rfl, hb⟩
end Go.Proofs.YtnpfhcnjkekhbaaDoor
