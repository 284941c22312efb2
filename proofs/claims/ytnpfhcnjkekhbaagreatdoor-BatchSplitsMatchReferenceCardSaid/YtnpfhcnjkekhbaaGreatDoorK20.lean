/-
  The contract of digest.sumOf, and with it those of Sum, Leaf, Node and Chain. The contracts of digest.Sum, Leaf, Node and Chain. Steps of a region that draws its order: a call by its contract, and an append to a row of the call's own. Rows of words and of bytes of the call's own: what they hold, and append to them. The contract of the reference's extended: a string with the bytes that are added to it. The contracts of the reference's constants and of its block: what the eight words become with a block. The contracts of the reference's Sum, Leaf, Node and Chain: they return what the program's do. The contracts of the reference's Leaf, Node and Chain.
-/
import Derived.Test.YtnpfhcnjkekhbaaGreatDoorProg
import Derived.Test.YtnpfhcnjkekhbaaGreatDoorK19
import Derived.RangeFuncBox
import Derived.Lib.ConvBytes
import Derived.Lib.SlBytesRow
import Derived.DefersIn
import Derived.Laws.Rows
import Derived.Laws.CopyOwn
import Derived.Below
import Derived.OwnWalk
import Derived.RegionTactic
import Derived.ChangeAlike
import Derived.BigQuiet
import Derived.Deep.RegionWith
import Derived.Deep.CutRange
import Derived.Deep.DeepCutAuto
import Derived.Deep.RegionHeld3
import Derived.IntWalk
import Derived.Deep.QuietTactic
import Derived.WalkKit
import Derived.WalkLawsBesides
import Derived.Outline
import Derived.Lib.Hide
import Derived.Lib.EndianBits
import Derived.Lib.Strings
import Derived.Shelf.Abstract
import Derived.LoopNIn
import Derived.LoopIn
import Derived.OwnWalkIn
import Derived.ControlIn
import Derived.WalkMore
import Derived.TacticsInMore
import Derived.Lib.SliceRun
import Derived.RangeFuncNested
import Derived.RangeFuncBound
import Derived.RangeFuncCalls
import Derived.RangeFuncLeaves
import Derived.RangeFuncRecord
import Derived.Deep.RegionLaw
import Derived.Laws.AppendOwn
set_option maxRecDepth 100000
set_option maxHeartbeats 16000000
namespace Go.Proofs.YtnpfhcnjkekhbaaGreatDoor
open Go Go.Proofs Go.RowKit Go.Lib
attribute [local go_sem] Oper.semAt_some
def shaL (M : List Nat) : ByteArray := ⟨((shaN M).map Nat.toUInt8).toArray⟩
theorem sha_eq (s : ByteArray) : sha s = shaL (natsOf s) := rfl
theorem natsOf_append (a b : ByteArray) : natsOf (a ++ b) = natsOf a ++ natsOf b := by simp [natsOf, ByteArray.data_append]
theorem below_put {n₀ : Nat} {w A : World} (h : Below n₀ w A) (r : Nat) (o : Obj) (hr : n₀ ≤ r) (hs : r < A.heap.size) : Below n₀ w (A.putObj r o) :=
 h.trans ((Below.refl n₀ A).grown (grownBy_putObj' A r o) (by omega) (fun k e => by cases e; omega))
theorem Is32.put {W : World} {g : Nat} {t : TypeId} {l : List Nat} (h : Is32 W g t l) {r : Nat} (o : Obj) (hr : g ≠ r) : Is32 (W.putObj r o) g t l := (World.putObj_heap_other hr).trans h
theorem blocks_any (Bp N : Nat) (w : World) :
 Calls Tryz.prog 91 #[.slice (some ⟨Bp, 0, none⟩) N N] w fun e w' => e = .returned (.func (.func 107) #[] #[.pointer (some ⟨w.heap.size, 0, none⟩)]) ∧ w.alloc (.cells #[.slice (some ⟨Bp, 0, none⟩) N N] 33) = w' := by
 go_enter Tryz.func91, Tryz.ntmps91
 go_wp2
 go_ret
 exact ⟨rfl, rfl⟩
theorem shaIV_lt : ∀ x ∈ shaIV, x < 4294967296 := by decide
theorem fold_lt : ∀ (bs : List (List Nat)) (s : List Nat), (∀ x ∈ s, x < 4294967296) → ∀ x ∈ bs.foldl comp s, x < 4294967296
 | [], _, h => h
 | b :: bs, s, _ => fold_lt bs _ (comp_lt s b)
noncomputable def sumW (w : World) (Bp N : Nat) : World :=
 ((w.alloc (.cells (u32s (List.replicate 8 0)) 128)).setRow w.heap.size (u32s shaIV)).alloc (.cells #[.slice (some ⟨Bp, 0, none⟩) N N] 33)
theorem sumW_size (w : World) (Bp N : Nat) : (sumW w Bp N).heap.size = w.heap.size + 2 := by simp [sumW]
theorem sumW_0 (w : World) (Bp N : Nat) : Is32 (sumW w Bp N) w.heap.size 128 shaIV := by
 unfold Is32 sumW
 exact (Below.heap_alloc _ _ _ (by simp)).trans (setRow_heap _ _ _ _ _ _ (heap_alloc_new w _))
theorem sumW_1 (w : World) (Bp N : Nat) : (sumW w Bp N).heap[w.heap.size + 1]? = some (.cells #[.slice (some ⟨Bp, 0, none⟩) N N] 33 (0, 0)) := by
 unfold sumW
 have := heap_alloc_new ((w.alloc (.cells (u32s (List.replicate 8 0)) 128)).setRow w.heap.size (u32s shaIV)) (.cells #[.slice (some ⟨Bp, 0, none⟩) N N] 33)
 rwa [size_setRow, World.size_alloc] at this
theorem sumW_below (w : World) (Bp N : Nat) : Below w.heap.size w (sumW w Bp N) := by
 unfold sumW
 exact (below_setRow ((Below.refl _ _).alloc (Nat.le_refl _) _) (Nat.le_refl _) _).alloc (by simp) _
def SumInv (w : World) (B : Nat) (pre : List (List Nat)) (A : World) : Prop := Is32 A B 128 (pre.foldl comp shaIV) ∧ HasK A ∧ Below B w A
theorem word4s_get : ∀ (s : List Nat) (i j : Nat), i < s.length → j < 4 → (s.flatMap word4).getD (4 * i + j) 0 = s.getD i 0 / 2 ^ (24 - 8 * j) % 256
 | a :: s, 0, j, _, hj => by
  have : j = 0 ∨ j = 1 ∨ j = 2 ∨ j = 3 := by omega
  rcases this with rfl | rfl | rfl | rfl <;> simp [word4]
 | a :: s, i + 1, j, hi, hj => by
  have ih := word4s_get s i j (by simpa using hi) hj
  rw [List.flatMap_cons, List.getD_cons_succ, ← ih, List.getD_eq_getElem?_getD, List.getD_eq_getElem?_getD, List.getElem?_append_right (by simp [word4]; omega)]
  congr 2
  simp [word4]; omega
def digB (L : List Nat) (m : Nat) : List Nat := L.take m ++ List.replicate (32 - m) 0
theorem digB_length (L : List Nat) (h : L.length = 32) (m : Nat) (hm : m ≤ 32) : (digB L m).length = 32 := by simp [digB, h]; omega
theorem digB_step (L : List Nat) (h : L.length = 32) (m : Nat) (hm : m < 32) : (digB L m).set m (L.getD m 0) = digB L (m + 1) := by
 unfold digB
 have e : List.replicate (32 - m) 0 = 0 :: List.replicate (32 - (m + 1)) 0 := by
  rw [show 32 - m = (32 - (m + 1)) + 1 by omega, List.replicate_succ]
 rw [e, List.set_append_right _ _ (by simp; omega), show m - (L.take m).length = 0 by simp; omega, List.set_cons_zero, List.take_succ_eq_append_getElem (by omega), List.append_assoc]
 simp [List.getD_eq_getElem?_getD, h, hm]
theorem digB_all (L : List Nat) (h : L.length = 32) : digB L 32 = L := by unfold digB; rw [List.take_of_length_le (by omega)]; simp
theorem word4s_lt (s : List Nat) : ∀ x ∈ s.flatMap word4, x < 256 := by
 intro x hx
 simp only [List.mem_flatMap, word4, List.mem_cons, List.not_mem_nil, or_false] at hx
 obtain ⟨a, _, h⟩ := hx
 rcases h with rfl | rfl | rfl | rfl <;> exact Nat.mod_lt _ (by decide)
theorem bytes_shaL {W : World} {g : Nat} {t : TypeId} {M : List Nat} (h : Is8 W g t (shaN M)) : Bytes W g 0 (shaL M) := by
 intro i hi
 have hl : (shaL M).size = 32 := by
  show ((shaN M).map Nat.toUInt8).toArray.size = 32
  rw [List.size_toArray, List.length_map, shaN_length]
 rw [Nat.zero_add, h.cell i (by rw [shaN_length]; omega)]
 have hb : (shaN M).getD i 0 < 256 := getD_byte (word4s_lt _) i
 have e : ((shaL M)[i]).toNat = (shaN M).getD i 0 := by
  have e1 : (shaL M)[i] = ((shaN M).map Nat.toUInt8).toArray[i]'(by simp [shaN_length]; omega) := rfl
  rw [e1]
  have hi2 : i < (shaN M).length := by rw [shaN_length]; omega
  have e2 : (shaN M).getD i 0 = (shaN M)[i] := by simp [List.getD_eq_getElem?_getD, hi2]
  rw [e2] at hb ⊢
  simp
  omega
 rw [e]
theorem slice32_all (w : World) (b : Nat) : (Instr.sliceAt 134 (.pointer (some ⟨b, 0, none⟩)) none none none).run Tryz.prog w = .ok (.slice (some ⟨b, 0, none⟩) 32 32) w := by
 have ha : Tryz.prog.arrayLen 134 = 32 := by kernel_rfl
 have ht : Tryz.prog.underlying 134 = some (.array (Tryz.prog.arrayLen 134) (Tryz.prog.elem 134)) := by kernel_rfl
 have hz : (Go.sizeOf (Tryz.prog.elem 134)).run Tryz.prog w = .ok 1 w := by kernel_rfl
 rw [run_sliceAt_array_all w _ _ ht, hz, ha]
 simp [Result.andThen, slicedAt, Addr.add]
noncomputable def asgW (x : List Nat) (W : World) : World := (W.alloc (.cells (u8s (List.replicate 64 0)) 132)).setRow W.heap.size (u8s x)
theorem asgW_below (x : List Nat) (W : World) : Below W.heap.size W (asgW x W) := below_setRow ((Below.refl _ _).alloc (Nat.le_refl _) _) (Nat.le_refl _) _
theorem asgW_new (x : List Nat) (W : World) : Is8 (asgW x W) W.heap.size 132 x := setRow_heap _ _ _ _ _ _ (heap_alloc_new W _)
theorem sumOf_in (n Bp : Nat) (ss : List ByteArray) (hM : (catN ss).length ≤ 1152921504606846976) (hN : ss.length ≤ 1000000) (w : World) (hp : PartsAt w Bp ss) (hBp : Bp < w.heap.size) (hK : HasK w) (hG : 1 < w.heap.size) :
 CallsIn Fence.wide n Tryz.prog 65 #[.slice (some ⟨Bp, 0, none⟩) ss.length ss.length] w fun e w' => e = .returned (.string (shaL (catN ss))) ∧ Below w.heap.size w w' := by
 have hi60 : (Tryz.prog.info? 128).map (·.size) = some (u32s shaIV).size := by kernel_rfl
 refine callsIn_of_wp_marks Tryz.func65 rfl trivial ?_ rfl
 simp only [Tryz.ntmps65, List.size_toArray, List.length_cons, List.length_nil, Nat.reduceAdd, Nat.reduceSub, Array.replicate_succ, Array.replicate_zero, List.push_toArray, List.append_toArray, List.nil_append, List.cons_append]
 have HI := Lib.hid hi60; have HM := Lib.hid hM; have HP := Lib.hid hp; have HK := Lib.hid hK
 clear hi60 hM hp hK
 gi_wp2_with (first | (refine fence_store_row rfl 128 (.tmp 3) (.tmp 9) rfl w.heap.size (u32s shaIV) rfl rfl 128 _ (heap_alloc_new w _) HI.out rfl (u32s_one _) ?_) | (refine ⟨trivial, (fun h => by cases h), ?_⟩; gi_at_call 91; refine (callsIn_wide.2 (blocks_any _ _ _)).mono ?_; rintro e w' ⟨rfl, rfl⟩))
 change Code.wpIn _ _ _ _ _ _ (sumW w Bp ss.length)
 have hs := sumW_size w Bp ss.length
 have h0 := sumW_0 w Bp ss.length
 have h1 := sumW_1 w Bp ss.length
 have hbw := sumW_below w Bp ss.length
 obtain ⟨W4, hW4⟩ : ∃ V, sumW w Bp ss.length = V := ⟨_, rfl⟩
 rw [hW4] at hs h0 h1 hbw ⊢
 have hK4 := HK.out.below hbw hG
 have hP4 : PartsAt W4 Bp ss := HP.out.below hbw hBp
 obtain ⟨B, hB⟩ : ∃ B, w.heap.size = B := ⟨_, rfl⟩
 rw [hB] at hs h0 h1 hbw hBp hG ⊢
 have HB := Lib.hid hB
 clear hW4 hB
 refine rangeFunc_fresh (gf := 107) (lb := #[.pointer (some ⟨B + 1, 0, none⟩)]) rfl (enters_of Tryz.func107 (by kernel_rfl) rfl)
  (fun x : List Nat => #[Value.agg (u8s x)]) (fun _ => rfl) (shaBlocks (catN ss)) (fun k => k = B + 1 ∨ k = Bp) (fun k hk => by omega)
  ?seq (SumInv w B) ?set ?put ?init
  (fun x W => { tmps := #[.slice (some ⟨Bp, 0, none⟩) ss.length ss.length, undef, .string { data := #[] }, .pointer (some ⟨B, 0, none⟩), .pointer (some ⟨W.heap.size, 0, none⟩), undef, undef, undef, undef, .agg #[.int .u32 1779033703, .int .u32 3144134277, .int .u32 1013904242, .int .u32 2773480762, .int .u32 1359893119, .int .u32 2600822924, .int .u32 528734635, .int .u32 1541459225], .slice (some ⟨Bp, 0, none⟩) ss.length ss.length, .func (.func 107) #[] #[.pointer (some ⟨B + 1, 0, none⟩)], .agg (u8s x), undef, undef, undef, undef, undef, undef, undef, undef, undef, undef, undef, undef, undef, undef, undef, undef, undef, undef, undef, undef, undef, undef, undef, undef, undef, undef], defers := [] })
  asgW asgW_below ?assign ?body ?done
 case seq =>
  intro l J W hset hY hJ hold hsz
  have hc : W.cell? ⟨B + 1, 0, none⟩ = some (.slice (some ⟨Bp, 0, none⟩) ss.length ss.length) := by
   rw [cell_of_row W (B + 1) 0 _ _ _ ((hold _ (by omega)).trans h1)]; rfl
  exact blocks1_in (n - 1) l (B + 1) Bp ss HM.out hN J W hset hY hc (hP4.same (hold _ (by omega))) (by omega) (by omega) hJ
 case set =>
  rintro s A A' ⟨i1, i2, i3⟩ hb
  rw [hs] at hb
  exact ⟨i1.below hb (by omega), i2.below hb (by omega), i3.trans (hb.mono (by omega))⟩
 case put =>
  rintro s A r o hr hlt ⟨i1, i2, i3⟩
  exact ⟨i1.put o (by omega), i2.same (World.putObj_heap_other (by omega)), below_put i3 r o (by omega) hlt⟩
 case init =>
  intro o o'
  have hb2 : Below (B + 2) W4 ((W4.alloc o).alloc o') := ((Below.refl _ _).alloc (by omega) _).alloc (by simp; omega) _
  exact ⟨h0.below hb2 (by omega), hK4.below hb2 (by omega), hbw.trans (hb2.mono (by omega))⟩
 case assign =>
  intro l x W K hx hK
  have hx64 := (mem_blocks (catN_lt ss) x hx).1
  have hi64 : (Tryz.prog.info? 132).map (·.size) = some (u8s x).size := by rw [u8s_size, hx64]; kernel_rfl
  have HX := Lib.hid hx64; have HI64 := Lib.hid hi64
  clear hx64 hi64
  gi_wp2_with (refine fence_store_row rfl 132 (.tmp 4) (.tmp 12) rfl W.heap.size (u8s x) rfl rfl 132 _ (heap_alloc_new W _) HI64.out (by rw [u8s_size, HX.out]; rfl) (u8s_one _) ?_)
  exact hK
 case body =>
  intro l pre x W W' hi hsz hWs hWh hpre
  obtain ⟨i1, i2, i3⟩ := hi
  obtain ⟨hx64, hxlt⟩ := mem_blocks (catN_lt ss) x (hpre.subset (by simp))
  have i4 : Is8 W' W.heap.size 132 x := (hWh _ (Nat.le_refl _)).trans (asgW_new x W)
  have hW1 : W.heap.size + 1 = W'.heap.size := by rw [hWs]; simp [asgW]
  have hfold : (pre ++ [x]).foldl comp shaIV = comp (pre.foldl comp shaIV) x := by simp
  have hsl := foldl_comp_length pre shaIV rfl
  have hslt := fold_lt pre shaIV shaIV_lt
  obtain ⟨s, hse⟩ : ∃ s, pre.foldl comp shaIV = s := ⟨_, rfl⟩
  rw [hse] at i1 hsl hslt hfold
  have hi64 : (Tryz.prog.info? 132).map (·.size) = some (u8s x).size := by rw [u8s_size, hx64]; kernel_rfl
  have hi60 : (Tryz.prog.info? 128).map (·.size) = some (u32s s).size := by rw [u32s_size, hsl]; kernel_rfl
  have hi60' : (Tryz.prog.info? 128).map (·.size) = some (u32s (comp s x)).size := by rw [u32s_size, comp_length _ _ hsl]; kernel_rfl
  have H1 := Lib.hid i1; have H2 := Lib.hid i2; have H3 := Lib.hid i3; have H4 := Lib.hid i4; have HX := Lib.hid hx64; have HXL := Lib.hid hxlt; have HSL := Lib.hid hsl; have HSLT := Lib.hid hslt; have HFO := Lib.hid hfold
  have HI64 := Lib.hid hi64; have HI60 := Lib.hid hi60; have HI60' := Lib.hid hi60'; have HWS := Lib.hid hW1; have HS := Lib.hid hs
  clear i1 i2 i3 i4 hx64 hxlt hsl hslt hfold hi64 hi60 hi60' hW1 hWs hWh hse hpre hs
  have hBW : B < W'.heap.size := by have := HWS.out; have := HS.out; omega
  gi_wp2_with (first | (refine fence_load_row rfl 128 (.tmp 3) rfl B rfl 128 (u32s s) (0, 0) _ H1.out Tryz.underlying128 rfl HI60.out ?_) | (refine fence_load_row rfl 132 (.tmp 4) rfl W.heap.size rfl 132 (u8s x) (0, 0) _ H4.out Tryz.underlying132 rfl HI64.out ?_) | (refine ⟨trivial, (fun h => by cases h), ?_⟩; gi_at_call 92; refine (CallsIn.inRound l (callsIn_wide.2 (compress_any s x HSL.out HSLT.out HX.out HXL.out W' H2.out (by omega)))).mono ?_; rintro en W2 ⟨rfl, hb2⟩) | (refine fence_store_row rfl 128 (.tmp 3) (.tmp 15) rfl B (u32s (comp s x)) rfl rfl 128 (u32s s) (H1.out.below hb2 hBW) HI60'.out (by simp [comp_length _ _ HSL.out, HSL.out]) (u32s_one _) ?_))
  refine ⟨fun k hk => ?_, ?_, ?_⟩
  · have h1 := HWS.out
    have h2 := HS.out
    have hkB : k ≠ B ∧ k < W'.heap.size := by
     rcases hk with (h | h) | h | h | h <;> omega
    rw [setRow_other _ _ _ _ hkB.1, hb2.block k hkB.2]
  · rw [size_setRow]; exact hb2.size
  · exact ⟨by rw [HFO.out]; exact setRow_heap _ _ _ _ _ _ (H1.out.below hb2 hBW), (H2.out.below hb2 (by omega)).same (setRow_other _ _ _ _ (by omega)), below_setRow (H3.out.trans (hb2.mono (by omega))) (Nat.le_refl _) _⟩
 case done =>
  intro W hi hD
  obtain ⟨d1, d2, d3⟩ := hi
  have hsl := foldl_comp_length (shaBlocks (catN ss)) shaIV rfl
  have hslt := fold_lt (shaBlocks (catN ss)) shaIV shaIV_lt
  have hsN : shaN (catN ss) = ((shaBlocks (catN ss)).foldl comp shaIV).flatMap word4 := rfl
  obtain ⟨s, hse⟩ : ∃ s, (shaBlocks (catN ss)).foldl comp shaIV = s := ⟨_, rfl⟩
  rw [hse] at d1 hsl hslt hsN
  have hL32 := shaN_length (catN ss)
  obtain ⟨L, hLe⟩ : ∃ L, shaN (catN ss) = L := ⟨_, rfl⟩
  have hbyt : ∀ i j, i < 8 → j < 4 → L.getD (4 * i + j) 0 = s.getD i 0 / 2 ^ (24 - 8 * j) % 256 := fun i j hi hj => by rw [← hLe, hsN]; exact word4s_get s i j (by omega) hj
  rw [hLe] at hL32 hsN
  have hi60 : (Tryz.prog.info? 128).map (·.size) = some (u32s s).size := by rw [u32s_size, hsl]; kernel_rfl
  have hDlt : B + 2 < W.heap.size := by have := (Array.getElem?_eq_some_iff.1 hD).1; omega
  have hidx := fun i (hi : i < 8) => index32 (P := Tryz.prog) 128 123 s 8 hsl Tryz.underlying128 Tryz.isAgg123 Tryz.sizeOf123 i hi
  rw [hs] at hD
  have HLE := Lib.hid hLe; have HSL := Lib.hid hsl; have HSLT := Lib.hid hslt; have HL32 := Lib.hid hL32; have HBY := Lib.hid hbyt; have HI60 := Lib.hid hi60; have HIX := Lib.hid hidx; have HD := Lib.hid hD; have HS := Lib.hid hs
  have D1 := Lib.hid d1; have D3 := Lib.hid d3
  have hnew : Hid (Is8 (W.alloc (.cells (u8s (List.replicate 32 0)) 134)) W.heap.size 134 (List.replicate 32 0)) := heap_alloc_new W _
  clear hse hLe hsl hslt hsN hL32 hbyt hi60 hidx hD d1 d2 d3 h0 h1 hK4 hP4 hbw
  rw [HS.out]
  obtain ⟨D, hDe⟩ : ∃ D, W.heap.size = D := ⟨_, rfl⟩
  have HDE := Lib.hid hDe
  rw [hDe] at hDlt hnew
  clear hs
  dsimp only
  gi_wp2_with (refine fence_load_row rfl 128 (.tmp 3) rfl B rfl 128 (u32s s) (0, 0) _ (D1.out.below ((Below.refl W.heap.size W).alloc (Nat.le_refl _) _) (by omega)) Tryz.underlying128 rfl HI60.out ?_)
  gi_loopw [17] (fun vi wr => ∃ (i : Nat), i ≤ 8 ∧ vi = .int .i64 i ∧ Hid (Is8 wr D 134 (digB L (4 * i))) ∧ Hid (Below B w wr) ∧ Hid (wr.heap[B + 2]? = some (.deferred (some [])))) (fun vi _ => 8 - (RowKit.intOf vi).toNat)
  case atStart => exact ⟨0, by decide, rfl, by rw [show digB L (4 * 0) = List.replicate 32 0 by simp [digB]]; exact hnew.out, D3.out.alloc (by omega) _, (Below.heap_alloc _ _ _ (by omega)).trans HD.out⟩
  case round =>
   obtain ⟨i, hi8, rfl, hA, hB', hDf⟩ := hrel
   by_cases hi : i < 8
   · have hi2 : (i : Int) < 8 := by omega
     have hx := HIX.out i hi
     have hxl := getD_word HSLT.out i
     have hby := fun j hj => HBY.out i j hi hj
     obtain ⟨x, hxe⟩ : ∃ x, s.getD i 0 = x := ⟨_, rfl⟩
     rw [hxe] at hx hxl hby
     have HBYT := Lib.hid hby
     clear hxe hby
     gi_wp2
     gi_loopw [21] (fun vj wq => ∃ (j : Nat), j ≤ 4 ∧ vj = .int .i64 j ∧ Hid (Is8 wq D 134 (digB L (4 * i + j))) ∧ Hid (Below B w wq) ∧ Hid (wq.heap[B + 2]? = some (.deferred (some [])))) (fun vj _ => 4 - (RowKit.intOf vj).toNat)
     case atStart => exact ⟨0, by decide, rfl, hA, hB', hDf⟩
     case round =>
      clear hA hB' hDf
      obtain ⟨j, hj4, rfl, hA, hB', hDf⟩ := hrel
      by_cases hj : j < 4
      · have hj2 : (j : Int) < 4 := by omega
        have hcell := hA.out.cell (4 * i + j) (by rw [digB_length L HL32.out _ (by omega)]; omega)
        have hfro := hA.out.frozen (4 * i + j)
        obtain ⟨o, ho⟩ : ∃ o, (digB L (4 * i + j)).getD (4 * i + j) 0 = o := ⟨_, rfl⟩
        rw [ho] at hcell
        clear ho
        gi_wp2
        go_roundw
        case rel => exact ⟨j + 1, by omega, by go_num, by rw [show 4 * i + (j + 1) = 4 * i + j + 1 by omega, ← digB_step L HL32.out _ (by omega), HBYT.out j hj]; exact hA.out.store' _ _ _ (by simp), hB'.out.setCell (by show B ≤ D; omega) _, (Below.heap_setCell _ _ _ _ (by show B + 2 ≠ D; omega)).trans hDf.out⟩
        case measure => simp [RowKit.intOf]; omega
      · have hj4' : j = 4 := by omega
        have hA4 : Hid (Is8 wr D 134 (digB L (4 * (i + 1)))) := by have := hA.out; rwa [hj4', show 4 * i + 4 = 4 * (i + 1) by omega] at this
        clear hj4'
        gi_wp2
        go_roundw
        case rel => exact ⟨i + 1, by omega, by go_num, hA4, hB', hDf⟩
        case measure => simp [RowKit.intOf]; omega
   · have hi8' : i = 8 := by omega
     have hA8 := hA.out
     rw [hi8', show 4 * 8 = 32 by decide, digB_all L HL32.out, ← HLE.out] at hA8
     have hby := bytes_shaL hA8
     have hconv := run_convert_whole (P := Tryz.prog) wr 42 5 9 Tryz.underlying42 Tryz.underlying5 Tryz.underlying9 D 0 (shaL (catN ss)) hby 32
     have hsz : (shaL (catN ss)).size = 32 := by
      show ((shaN (catN ss)).map Nat.toUInt8).toArray.size = 32
      rw [List.size_toArray, List.length_map, shaN_length]
     rw [hsz] at hconv
     have hsla := fun w => slice32_all w D
     have HBw := Lib.hid hB'.out
     clear hi8' hA8 hby hsz
     gi_wp2
     refine ⟨by simp, .inl ⟨_, _, rfl, run_takeDeferred hDf.out, ?_⟩⟩
     exact ⟨_, results_tmp rfl _ _ _, ⟨rfl, by rw [HB.out]; exact below_put HBw.out _ _ (by omega) (Array.getElem?_eq_some_iff.1 hDf.out).1⟩⟩
theorem sumOf_any (Bp : Nat) (ss : List ByteArray) (hM : (catN ss).length ≤ 1152921504606846976) (hN : ss.length ≤ 1000000) (w : World) (hp : PartsAt w Bp ss) (hBp : Bp < w.heap.size) (hK : HasK w) (hG : 1 < w.heap.size) :
 Calls Tryz.prog 65 #[.slice (some ⟨Bp, 0, none⟩) ss.length ss.length] w fun e w' => e = .returned (.string (shaL (catN ss))) ∧ Below w.heap.size w w' :=
 callsIn_wide.1 (sumOf_in 0 Bp ss hM hN w hp hBp hK hG)
end Go.Proofs.YtnpfhcnjkekhbaaGreatDoor

namespace Go.Proofs.YtnpfhcnjkekhbaaGreatDoor
open Go Go.Proofs Go.RowKit Go.Lib
def Ready (w : World) : Prop := HasK w ∧ 1 < w.heap.size
theorem Ready.below {w w' : World} (h : Ready w) (hb : Below w.heap.size w w') : Ready w' := ⟨h.1.below hb h.2, Nat.lt_of_lt_of_le h.2 hb.size⟩
theorem Ready.ext {n : Nat} {w w' : World} (h : Ready w) (hn : n = w.heap.size) (hb : Below n w w') : Ready w' := h.below (hn ▸ hb)
theorem natsOf_tagged (t : UInt8) (s : ByteArray) : natsOf (tagged t s) = t.toNat :: natsOf s := by
 simp [tagged, natsOf, ByteArray.data_append]
theorem tagged_size (t : UInt8) (s : ByteArray) : (tagged t s).size = s.size + 1 := by
 rw [← natsOf_length, natsOf_tagged, List.length_cons, natsOf_length]
theorem part_new (w : World) (ss : List ByteArray) (t : TypeId) : PartsAt (w.alloc (.cells (ss.map Value.string).toArray t)) w.heap.size ss := by
 intro i hi
 rw [cell_of_row _ _ i _ _ _ (heap_alloc_new w _)]
 simp [hi]
theorem ready_alloc {w : World} (h : Ready w) (o : Obj) : Ready (w.alloc o) := h.below ((Below.refl _ _).alloc (Nat.le_refl _) _)
theorem sumOf_new (ss : List ByteArray) (hM : (catN ss).length ≤ 1152921504606846976) (hN : ss.length ≤ 1000000) (w : World) (hR : Ready w) (t : TypeId) :
 Calls Tryz.prog 65 #[.slice (some ⟨w.heap.size, 0, none⟩) ss.length ss.length] (w.alloc (.cells (ss.map Value.string).toArray t)) fun e w' => e = .returned (.string (shaL (catN ss))) ∧ Below w.heap.size w w' :=
 (sumOf_any w.heap.size ss hM hN _ (part_new w ss t) (by simp) (ready_alloc hR _).1 (ready_alloc hR _).2).mono fun _ _ h => ⟨h.1, ((Below.refl w.heap.size w).alloc (Nat.le_refl _) _).trans (h.2.mono (by simp))⟩
theorem chain_any (a b : ByteArray) (ha : a.size ≤ 1099511627776) (hb : b.size ≤ 1099511627776) (w : World) (hR : Ready w) :
 Calls Tryz.prog 38 #[.string a, .string b] w fun e w' => e = .returned (.string (chainF a b)) ∧ Below w.heap.size w w' := by
 have hc : catN [⟨#[2]⟩, a, b] = natsOf (tagged 2 (a ++ b)) := by rw [natsOf_tagged, natsOf_append]; simp [catN, natsOf]
 have c := sumOf_new [⟨#[2]⟩, a, b] (by rw [hc, natsOf_length, tagged_size]; (try rw [ByteArray.size_append]); omega) (by simp) w hR 9
 rw [hc, ← sha_eq] at c
 have C := Lib.hid (show Calls Tryz.prog 65 #[.slice (some ⟨w.heap.size, 0, none⟩) 3 3] (w.alloc (.cells #[.string ⟨#[2]⟩, .string a, .string b] 9)) _ from c)
 clear c hc
 go_enter Tryz.func38, Tryz.ntmps38
 go_wp2_with fail
 refine C.out.mono ?_
 rintro e w' ⟨rfl, hb⟩
 go_wp2
 go_ret
 exact ⟨rfl, hb⟩
end Go.Proofs.YtnpfhcnjkekhbaaGreatDoor

namespace Go.Proofs.YtnpfhcnjkekhbaaGreatDoor
open Go Go.Proofs Go.RowKit Go.Lib
theorem own_below {w w' : World} {n base : Nat} {e : TypeId} {size : Nat} {v : Value} {k : Nat} {xs : List Value} (h : w.ownsRow base e size v k xs) (hb : Below n w w') (hn : w.heap.size ≤ n) : w'.ownsRow base e size v k xs := by
 refine ⟨h.1, h.2.imp id ?_⟩
 rintro ⟨g, cap, cur, hv, hg, hh, r⟩
 have hlt : g < w.heap.size := (Array.getElem?_eq_some_iff.1 hh).1
 exact ⟨g, cap, cur, hv, hg, (hb.block g (by omega)).trans hh, r⟩
theorem own_heap {w w' : World} {base : Nat} {e : TypeId} {size : Nat} {v : Value} {k : Nat} {xs : List Value} (h : w.ownsRow base e size v k xs) (hb : ∀ j, j < w.heap.size → w'.heap[j]? = w.heap[j]?) : w'.ownsRow base e size v k xs := by
 refine ⟨h.1, h.2.imp id ?_⟩
 rintro ⟨g, cap, cur, hv, hg, hh, r⟩
 have hlt : g < w.heap.size := (Array.getElem?_eq_some_iff.1 hh).1
 exact ⟨g, cap, cur, hv, hg, (hb g hlt).trans hh, r⟩
theorem own_base {w : World} {base base' : Nat} {e : TypeId} {size : Nat} {v : Value} {k : Nat} {xs : List Value} (h : w.ownsRow base e size v k xs) (hb : base' ≤ base) : w.ownsRow base' e size v k xs := by
 refine ⟨h.1, h.2.imp id ?_⟩
 rintro ⟨g, cap, cur, hv, hg, r⟩
 exact ⟨g, cap, cur, hv, Nat.le_trans hb hg, r⟩
theorem own_ge {w : World} {base : Nat} {e : TypeId} {size : Nat} {v : Value} {n : Nat} {xs : List Value} (h : w.ownsRow base e size v n xs) : ∀ k, v.ownBlock = some k → base ≤ k := fun k hk => (h.lt k hk).1
end Go.Proofs.YtnpfhcnjkekhbaaGreatDoor

namespace Go.Proofs.YtnpfhcnjkekhbaaGreatDoor
open Go Go.Proofs Go.RowKit Go.Lib
def NumsAt (k : IntKind) (W : World) (g o : Nat) (l : List Nat) : Prop := ∀ j, j < l.length → W.cell? ⟨g, o + j, none⟩ = some (.int k ((l.getD j 0 : Nat) : Int))
theorem NumsAt.below {k : IntKind} {n : Nat} {W W' : World} {g o : Nat} {l : List Nat} (h : NumsAt k W g o l) (hb : Below n W W') (hn : g < n) : NumsAt k W' g o l :=
 fun j hj => (hb.cell (p := ⟨g, o + j, none⟩) hn).trans (h j hj)
theorem NumsAt.heq {k : IntKind} {W W' : World} {g o : Nat} {l : List Nat} (h : NumsAt k W g o l) (e : W'.heap[g]? = W.heap[g]?) : NumsAt k W' g o l :=
 fun j hj => (World.cell?_of_block e).trans (h j hj)
theorem NumsAt.sub {k : IntKind} {W : World} {g o : Nat} {l : List Nat} (h : NumsAt k W g o l) (i n : Nat) (hi : i + n ≤ l.length) : NumsAt k W g (o + i) ((l.drop i).take n) := by
 intro j hj
 have hj2 : j < n := by simp at hj; omega
 have := h (i + j) (by omega)
 rw [← Nat.add_assoc] at this
 rw [this]
 congr 3
 simp [List.getD_eq_getElem?_getD, hj2]
theorem add_at (g o j : Nat) : (⟨g, o, none⟩ : Addr).add j = ⟨g, o + j, none⟩ := by unfold Addr.add; split <;> simp_all
def numVals (k : IntKind) (l : List Nat) : List Value := l.map fun n => Value.int k ((n : Nat) : Int)
theorem numVals_append (k : IntKind) (a b : List Nat) : numVals k (a ++ b) = numVals k a ++ numVals k b := by simp [numVals]
theorem numVals_get {k : IntKind} {l : List Nat} {j : Nat} {u : Value} (h : (numVals k l)[j]? = some u) : j < l.length ∧ u = .int k ((l.getD j 0 : Nat) : Int) := by
 have hj : j < l.length := by
  rcases Nat.lt_or_ge j l.length with h1 | h1
  · exact h1
  · rw [List.getElem?_eq_none (by simp [numVals]; omega)] at h; cases h
 refine ⟨hj, ?_⟩
 simp [numVals, hj] at h
 rw [← h]
 simp [List.getD_eq_getElem?_getD, hj]
theorem numVals_one {k : IntKind} {l : List Nat} : ∀ u ∈ numVals k l, u.oneCell' = true := by
 intro u hu
 simp only [numVals, List.mem_map] at hu
 obtain ⟨s, _, rfl⟩ := hu
 rfl
theorem new_nums (k : IntKind) (W : World) (l : List Nat) (t : TypeId) : NumsAt k (W.alloc (.cells (numVals k l).toArray t)) W.heap.size 0 l := by
 intro j hj
 rw [cell_of_row _ _ (0 + j) _ _ _ (heap_alloc_new W _)]
 simp [numVals, hj]
theorem new_num1 (k : IntKind) (W : World) (x : Int) (n : Nat) (hx : x = (n : Nat)) (t : TypeId) : NumsAt k (W.alloc (.cells #[.int k x] t)) W.heap.size 0 [n] := by
 subst hx; exact new_nums k W [n] t
theorem info_u32 : (Tryz.prog.info? 123).map (fun i => (i.zero, i.size, i.bytes)) = some (some (.int .u32 0), 1, 4) := by kernel_rfl
def Own32 (W : World) (base : Nat) (v : Value) (l : List Nat) : Prop := W.ownsRow base 123 1 v l.length (numVals .u32 l)
theorem Own32.nil (W : World) (base : Nat) : Own32 W base (.slice none 0 0) [] := World.ownsRow_nil _ _ _ _
theorem Own32.below {n base : Nat} {W W' : World} {v : Value} {p : List Nat} (h : Own32 W base v p) (hb : Below n W W') (hn : W.heap.size ≤ n) : Own32 W' base v p := own_below h hb hn
theorem Own32.heq {W W' : World} {base : Nat} {v : Value} {p : List Nat} (h : Own32 W base v p) (e : W'.heap = W.heap) : Own32 W' base v p := own_heap h (fun j _ => by rw [e])
theorem Own32.alloc {W : World} {base : Nat} {v : Value} {p : List Nat} (h : Own32 W base v p) (o : Obj) : Own32 (W.alloc o) base v p := own_heap h (fun k hk => Below.heap_alloc W o k hk)
theorem Own32.form {W : World} {base : Nat} {v : Value} {p : List Nat} (h : Own32 W base v p) (n : Nat) (hn : p.length = n) (h0 : 0 < n) :
 ∃ g cap, v = .slice (some ⟨g, 0, none⟩) n cap ∧ n ≤ cap ∧ base ≤ g ∧ g < W.heap.size ∧ NumsAt .u32 W g 0 p ∧ cap ≤ maxLen := by
 subst hn
 rcases h.2 with ⟨_, h1⟩ | ⟨g, cap, cur, hv, hb, hg, h2, h3, h4, h5⟩
 · omega
 · refine ⟨g, cap, hv, by omega, hb, ?_, ?_, h3⟩
   · rcases Nat.lt_or_ge g W.heap.size with hlt | hge
     · exact hlt
     · rw [Array.getElem?_eq_none hge] at hg; cases hg
   · intro j hj
     rw [cell_of_row W g (0 + j) cur _ _ hg, ← Array.getElem?_toList, ← List.getElem?_take_of_lt (j := p.length * 1) (by omega), h5]
     simp [numVals, hj]
theorem run_push32 (w w0 : World) (n : Nat) (ty : TypeId) (v : Value) (l p : List Nat) (hown : Own32 w n v l) (hb : Below n w0 w) (hn : n ≤ w.heap.size) (g o m c : Nat) (hm : p.length = m) (hc : NumsAt .u32 w g o p) (hl : l.length + m ≤ 17592186044416) :
 ∃ v' w', (Builtin.append_ #[124, 124] ty #[v, .slice (some ⟨g, o, none⟩) m c]).run Tryz.prog w = .ok v' w' ∧ Own32 w' n v' (l ++ p) ∧ Below n w0 w' ∧ w.grownBy w' v.ownBlock := by
 obtain ⟨i0, hi, hz0, hz1, hz2⟩ := info_parts info_u32
 subst hm
 obtain ⟨v', w', hrun, r1, r2, _⟩ := run_append_own (P := Tryz.prog) w n 124 ty 123 i0 (.int .u32 0) 1 4 Tryz.underlying124 hi hz0 hz1 hz2 rfl (by decide) v l.length (numVals .u32 l) hown
  ⟨g, o, none⟩ p.length c (numVals .u32 p) (by simp [numVals]) (by
   intro j u hj
   obtain ⟨h1, rfl⟩ := numVals_get hj
   rw [add_at]; exact hc j h1) numVals_one (by unfold maxLen; omega) (by omega) hn
 refine ⟨v', w', hrun, ?_, hb.grown r2 hn (own_ge hown), r2⟩
 unfold Own32
 rw [numVals_append, List.length_append]
 exact r1
theorem step_push32 {ops : Array Oper} {o : Oper} {a : Act} {w w0 : World} {K : Act → World → Prop} {Q : Exit → Act → World → Prop} {E : Prop}
 (hgd : o.guard = none) (s x : Operand) (hop : o.op = Op.call { callee := Callee.builtin Builtin.append, args := #[s, x], argTypes := #[124, 124] })
 (n : Nat) (v : Value) (l p : List Nat) (hs : a.eval s = v) (hown : Own32 w n v l) (hb : Below n w0 w) (hn : n ≤ w.heap.size) (g off m c : Nat) (hx : a.eval x = .slice (some ⟨g, off, none⟩) m c) (hm : p.length = m) (hc : NumsAt .u32 w g off p) (hl : l.length + m ≤ 17592186044416)
 (hK : ∀ v' w', Own32 w' n v' (l ++ p) → Below n w0 w' → w.grownBy w' v.ownBlock → K (a.put o.dst v') w') :
 if Region.wanted o (yielded ops a.tmps) = true then Oper.wp Tryz.prog o a w K Q else E := by
 have hw : Region.wanted o (yielded ops a.tmps) = true := by simp [Region.wanted, hgd]
 rw [if_pos hw]
 obtain ⟨v', w', hrun, r1, r2, r3⟩ := run_push32 w w0 n o.type v l p hown hb hn g off m c hm hc hl
 unfold Oper.wp
 simp [execOp, hop, resolve, invoke, builtin, hs, hx, hrun, Result.andThen]
 exact hK v' w' r1 r2 r3
theorem walk_push32 {ops : Array Oper} {o : Oper} {rest : List Oper} {a : Act} {w w0 : World} {Q : Exit → Act → World → Prop}
 (hgd : o.guard = none) (s x : Operand) (hop : o.op = Op.call { callee := Callee.builtin Builtin.append, args := #[s, x], argTypes := #[124, 124] })
 (n : Nat) (v : Value) (l p : List Nat) (hs : a.eval s = v) (hown : Own32 w n v l) (hb : Below n w0 w) (hn : n ≤ w.heap.size) (g off m c : Nat) (hx : a.eval x = .slice (some ⟨g, off, none⟩) m c) (hm : p.length = m) (hc : NumsAt .u32 w g off p) (hl : l.length + m ≤ 17592186044416)
 (hK : ∀ v' w', Own32 w' n v' (l ++ p) → Below n w0 w' → wpList Tryz.prog ops Q rest (a.put o.dst v') w') : wpList Tryz.prog ops Q (o :: rest) a w := by
 refine wpList_plain hgd fun K hK' => ?_
 obtain ⟨v', w', hrun, r1, r2, _⟩ := run_push32 w w0 n o.type v l p hown hb hn g off m c hm hc hl
 unfold Oper.wp
 simp [execOp, hop, resolve, invoke, builtin, hs, hx, hrun, Result.andThen]
 exact hK' _ _ (hK v' w' r1 r2)
/-! ### u8 -/
theorem info_u8 : (Tryz.prog.info? 5).map (fun i => (i.zero, i.size, i.bytes)) = some (some (.int .u8 0), 1, 1) := by kernel_rfl
def Own8 (W : World) (base : Nat) (v : Value) (l : List Nat) : Prop := W.ownsRow base 5 1 v l.length (numVals .u8 l)
theorem Own8.nil (W : World) (base : Nat) : Own8 W base (.slice none 0 0) [] := World.ownsRow_nil _ _ _ _
theorem Own8.below {n base : Nat} {W W' : World} {v : Value} {p : List Nat} (h : Own8 W base v p) (hb : Below n W W') (hn : W.heap.size ≤ n) : Own8 W' base v p := own_below h hb hn
theorem Own8.heq {W W' : World} {base : Nat} {v : Value} {p : List Nat} (h : Own8 W base v p) (e : W'.heap = W.heap) : Own8 W' base v p := own_heap h (fun j _ => by rw [e])
theorem Own8.alloc {W : World} {base : Nat} {v : Value} {p : List Nat} (h : Own8 W base v p) (o : Obj) : Own8 (W.alloc o) base v p := own_heap h (fun k hk => Below.heap_alloc W o k hk)
theorem Own8.form {W : World} {base : Nat} {v : Value} {p : List Nat} (h : Own8 W base v p) (n : Nat) (hn : p.length = n) (h0 : 0 < n) :
 ∃ g cap, v = .slice (some ⟨g, 0, none⟩) n cap ∧ n ≤ cap ∧ base ≤ g ∧ g < W.heap.size ∧ NumsAt .u8 W g 0 p ∧ cap ≤ maxLen := by
 subst hn
 rcases h.2 with ⟨_, h1⟩ | ⟨g, cap, cur, hv, hb, hg, h2, h3, h4, h5⟩
 · omega
 · refine ⟨g, cap, hv, by omega, hb, ?_, ?_, h3⟩
   · rcases Nat.lt_or_ge g W.heap.size with hlt | hge
     · exact hlt
     · rw [Array.getElem?_eq_none hge] at hg; cases hg
   · intro j hj
     rw [cell_of_row W g (0 + j) cur _ _ hg, ← Array.getElem?_toList, ← List.getElem?_take_of_lt (j := p.length * 1) (by omega), h5]
     simp [numVals, hj]
theorem run_push8 (w w0 : World) (n : Nat) (ty : TypeId) (v : Value) (l p : List Nat) (hown : Own8 w n v l) (hb : Below n w0 w) (hn : n ≤ w.heap.size) (g o m c : Nat) (hm : p.length = m) (hc : NumsAt .u8 w g o p) (hl : l.length + m ≤ 17592186044416) :
 ∃ v' w', (Builtin.append_ #[42, 42] ty #[v, .slice (some ⟨g, o, none⟩) m c]).run Tryz.prog w = .ok v' w' ∧ Own8 w' n v' (l ++ p) ∧ Below n w0 w' ∧ w.grownBy w' v.ownBlock := by
 obtain ⟨i0, hi, hz0, hz1, hz2⟩ := info_parts info_u8
 subst hm
 obtain ⟨v', w', hrun, r1, r2, _⟩ := run_append_own (P := Tryz.prog) w n 42 ty 5 i0 (.int .u8 0) 1 1 Tryz.underlying42 hi hz0 hz1 hz2 rfl (by decide) v l.length (numVals .u8 l) hown
  ⟨g, o, none⟩ p.length c (numVals .u8 p) (by simp [numVals]) (by
   intro j u hj
   obtain ⟨h1, rfl⟩ := numVals_get hj
   rw [add_at]; exact hc j h1) numVals_one (by unfold maxLen; omega) (by omega) hn
 refine ⟨v', w', hrun, ?_, hb.grown r2 hn (own_ge hown), r2⟩
 unfold Own8
 rw [numVals_append, List.length_append]
 exact r1
theorem step_push8 {ops : Array Oper} {o : Oper} {a : Act} {w w0 : World} {K : Act → World → Prop} {Q : Exit → Act → World → Prop} {E : Prop}
 (hgd : o.guard = none) (s x : Operand) (hop : o.op = Op.call { callee := Callee.builtin Builtin.append, args := #[s, x], argTypes := #[42, 42] })
 (n : Nat) (v : Value) (l p : List Nat) (hs : a.eval s = v) (hown : Own8 w n v l) (hb : Below n w0 w) (hn : n ≤ w.heap.size) (g off m c : Nat) (hx : a.eval x = .slice (some ⟨g, off, none⟩) m c) (hm : p.length = m) (hc : NumsAt .u8 w g off p) (hl : l.length + m ≤ 17592186044416)
 (hK : ∀ v' w', Own8 w' n v' (l ++ p) → Below n w0 w' → w.grownBy w' v.ownBlock → K (a.put o.dst v') w') :
 if Region.wanted o (yielded ops a.tmps) = true then Oper.wp Tryz.prog o a w K Q else E := by
 have hw : Region.wanted o (yielded ops a.tmps) = true := by simp [Region.wanted, hgd]
 rw [if_pos hw]
 obtain ⟨v', w', hrun, r1, r2, r3⟩ := run_push8 w w0 n o.type v l p hown hb hn g off m c hm hc hl
 unfold Oper.wp
 simp [execOp, hop, resolve, invoke, builtin, hs, hx, hrun, Result.andThen]
 exact hK v' w' r1 r2 r3
theorem walk_pushR8 {ops : Array Oper} {o : Oper} {rest : List Oper} {a : Act} {w w0 : World} {Q : Exit → Act → World → Prop}
 (hgd : o.guard = none) (s x : Operand) (hop : o.op = Op.call { callee := Callee.builtin Builtin.append, args := #[s, x], argTypes := #[42, 42] })
 (n : Nat) (v : Value) (l p : List Nat) (hs : a.eval s = v) (hown : Own8 w n v l) (hb : Below n w0 w) (hn : n ≤ w.heap.size) (g off m c : Nat) (hx : a.eval x = .slice (some ⟨g, off, none⟩) m c) (hm : p.length = m) (hc : NumsAt .u8 w g off p) (hl : l.length + m ≤ 17592186044416)
 (hK : ∀ v' w', Own8 w' n v' (l ++ p) → Below n w0 w' → wpList Tryz.prog ops Q rest (a.put o.dst v') w') : wpList Tryz.prog ops Q (o :: rest) a w := by
 refine wpList_plain hgd fun K hK' => ?_
 obtain ⟨v', w', hrun, r1, r2, _⟩ := run_push8 w w0 n o.type v l p hown hb hn g off m c hm hc hl
 unfold Oper.wp
 simp [execOp, hop, resolve, invoke, builtin, hs, hx, hrun, Result.andThen]
 exact hK' _ _ (hK v' w' r1 r2)
end Go.Proofs.YtnpfhcnjkekhbaaGreatDoor

namespace Go.Proofs.YtnpfhcnjkekhbaaGreatDoor
open Go Go.Proofs Go.RowKit Go.Lib
theorem take_next (l : List Nat) (k : Nat) (h : k < l.length) : l.take (k + 1) = l.take k ++ [l.getD k 0] := by
 rw [List.take_succ_eq_append_getElem h]; simp [List.getD_eq_getElem?_getD, h]
theorem be8_length (n : Nat) : (be8 n).length = 8 := by simp [be8]
theorem be8_get (n q : Nat) (h : q < 8) : (be8 n).getD (7 - q) 0 = n / 2 ^ (8 * q) % 256 := by
 rw [Nat.pow_mul]
 have : 7 - (7 - q) = q := by omega
 simp [be8, List.getD_eq_getElem?_getD, show 7 - q < 8 by omega, this]
theorem rep_next (l : List Nat) (z : Nat) : (l ++ 128 :: List.replicate z 0) ++ [0] = l ++ 128 :: List.replicate (z + 1) 0 := by
 rw [List.append_assoc, List.cons_append, ← List.replicate_succ']
def slen (v : Value) : Nat := match v with | .slice _ n _ => n | _ => 0
theorem extended_any (s : ByteArray) (hs : s.size ≤ 1099511627776) (w : World) :
 Calls Tryz.prog 89 #[.string s] w fun e w' => ∃ v, e = .returned v ∧ Own8 w' w.heap.size v (shaPad (natsOf s)) ∧ Below w.heap.size w w' := by
 go_enter Tryz.func89, Tryz.ntmps89
 go_wp2_with fail
 go_loopw [3, 4] (fun v i wr => ∃ k : Nat, k ≤ s.size ∧ i = .int .i64 k ∧ Hid (Own8 wr w.heap.size v ((natsOf s).take k)) ∧ Below w.heap.size w wr) (fun _ i _ => s.size - (RowKit.intOf i).toNat)
 case atStart => exact ⟨0, Nat.zero_le _, rfl, Own8.nil _ _, Below.refl _ _⟩
 case round =>
  obtain ⟨k, hk, rfl, hown, hbr⟩ := hrel
  by_cases hlt : k < s.size
  · have hk1 : (k : Int) < (s.size : Int) := by omega
    have hbyte : (natsOf s).getD k 0 = s[k].toNat := by simp [natsOf, hlt]; rfl
    have hnext := take_next (natsOf s) k (by rw [natsOf_length]; exact hlt)
    rw [hbyte] at hnext
    have hix : ∀ w, (Instr.index 9 (.string s) (.int .i64 (k : Nat))).run Tryz.prog w = .ok (.int .u8 ((s[k].toNat : Nat) : Int)) w := by
     intro w
     have h0 : (0 : Int) ≤ (k : Int) := by omega
     simp [Instr.index, asIntOf, run_underlying Tryz.underlying9, hlt]
    obtain ⟨x, hx⟩ : ∃ x, s[k].toNat = x := ⟨_, rfl⟩
    rw [hx] at hnext hix
    obtain ⟨p, hp⟩ : ∃ p, (natsOf s).take k = p := ⟨_, rfl⟩
    have hpl : p.length + 1 ≤ 17592186044416 := by rw [← hp]; simp [natsOf_length]; omega
    rw [hp] at hown hnext
    have HN := Lib.hid hnext; have HB := Lib.hid hbr
    have hsize := hbr.size
    clear hnext hbyte hx hp hbr
    go_wp2_with (first | (at_builtin; refine walk_pushR8 (w0 := w) rfl _ _ rfl w.heap.size _ p [x] rfl (hown.out.alloc _) (HB.out.alloc hsize _) (Nat.le_trans hsize (by simp)) wr.heap.size 0 1 1 rfl rfl (new_num1 .u8 wr _ x rfl _) hpl ?_; intro v3 W3 ho3 hb3))
    go_roundw
    case rel => exact ⟨k + 1, by omega, by go_num, by rw [HN.out]; exact ho3, hb3⟩
    case measure => simp [RowKit.intOf]; omega
  · have hk1 : ¬ (k : Int) < (s.size : Int) := by omega
    have hk3 : k = s.size := by omega
    obtain ⟨p, hp⟩ : ∃ p, natsOf s = p := ⟨_, rfl⟩
    have hpl : p.length = s.size := by rw [← hp]; exact natsOf_length s
    rw [hk3, List.take_of_length_le (by rw [natsOf_length]; omega), hp] at hown
    have HP := Lib.hid hp; have HB := Lib.hid hbr; have HPL := Lib.hid hpl
    have hsize := hbr.size
    clear hk3 hp hbr hpl
    go_wp2_with (first | (at_builtin; refine walk_pushR8 (w0 := w) rfl _ _ rfl w.heap.size _ p [128] rfl (hown.out.alloc _) (HB.out.alloc hsize _) (Nat.le_trans hsize (by simp)) wr.heap.size 0 1 1 rfl rfl (new_num1 .u8 wr _ 128 rfl _) (by rw [HPL.out]; omega) ?_; intro v3 W3 ho3 hb3))
    have HO3 := Lib.hid ho3; have HB3 := Lib.hid hb3
    clear ho3 hb3 hown HB hsize
    go_loopw [3] (fun v wr => ∃ z : Nat, z ≤ padZ s.size ∧ Hid (Own8 wr w.heap.size v (p ++ 128 :: List.replicate z 0)) ∧ Hid (Below w.heap.size w wr)) (fun v _ => padZ s.size + s.size + 1 - slen v)
    case atStart => exact ⟨0, Nat.zero_le _, HO3.out, HB3.out⟩
    case round =>
     obtain ⟨z, hz, hown, hbr⟩ := hrel
     have hlen : (p ++ 128 :: List.replicate z 0).length = s.size + 1 + z := by simp [HPL.out]; omega
     obtain ⟨g, cap, rfl, hcap, hbg, hgl, _, _⟩ := hown.out.form (s.size + 1 + z) hlen (by omega)
     have hpz : padZ s.size < 64 := by unfold padZ; omega
     have hsize := hbr.out.size
     by_cases hlt : z < padZ s.size
     · have hc1 : (((s.size + 1 + z : Nat) : Int) % 64 != 56) = true := by rw [bne_iff_ne]; unfold padZ at hlt hz; omega
       have hc2 : (((s.size : Int) + 1 + (z : Int)) % 64 != 56) = true := by rw [bne_iff_ne]; unfold padZ at hlt hz; omega
       have hpl2 : (p ++ 128 :: List.replicate z 0).length + 1 ≤ 17592186044416 := by omega
       have hnext := rep_next p z
       obtain ⟨q, hq⟩ : ∃ q, p ++ 128 :: List.replicate z 0 = q := ⟨_, rfl⟩
       rw [hq] at hown hnext hpl2 hlen
       have HN := Lib.hid hnext; have HL := Lib.hid hlen
       clear hnext hq hlen
       go_wp2_with (first | (at_builtin; refine walk_pushR8 (w0 := w) rfl _ _ rfl w.heap.size _ q [0] rfl (hown.out.alloc _) (hbr.out.alloc hsize _) (Nat.le_trans hsize (by simp)) wr.heap.size 0 1 1 rfl rfl (new_num1 .u8 wr _ 0 rfl _) hpl2 ?_; intro v4 W4 ho4 hb4))
       obtain ⟨g4, cap4, rfl, _, _, _, _, _⟩ := ho4.form (s.size + 1 + z + 1) (by rw [List.length_append, HL.out]; rfl) (by omega)
       go_roundw
       case rel => exact ⟨z + 1, by omega, by rw [← HN.out]; exact ho4, hb4⟩
       case measure => simp [slen]; omega
     · have hzz : z = padZ s.size := by omega
       have hc1 : (((s.size + 1 + z : Nat) : Int) % 64 != 56) = false := by rw [bne_eq_false_iff_eq, hzz]; unfold padZ; omega
       have hc2 : (((s.size : Int) + 1 + (z : Int)) % 64 != 56) = false := by rw [bne_eq_false_iff_eq, hzz]; unfold padZ; omega
       have hpad : shaPad p = (p ++ 128 :: List.replicate z 0) ++ be8 (8 * s.size) := by rw [hzz]; unfold shaPad; rw [HPL.out]; simp
       obtain ⟨q, hq⟩ : ∃ q, p ++ 128 :: List.replicate z 0 = q := ⟨_, rfl⟩
       rw [hq] at hown hpad hlen
       have HPD := Lib.hid hpad; have HL := Lib.hid hlen; have HZ := Lib.hid hzz
       clear hpad hq hlen hzz hlt
       go_wp2_with fail
       go_loopw [3, 5] (fun v i wr => ∃ r : Nat, r ≤ 8 ∧ i = .int .i64 ((r : Int) - 1) ∧ Hid (Own8 wr w.heap.size v (q ++ (be8 (8 * s.size)).take (8 - r))) ∧ Hid (Below w.heap.size w wr)) (fun _ i _ => (RowKit.intOf i + 1).toNat)
       case atStart => exact ⟨8, by omega, by go_num, (by simpa using hown.out : Own8 _ _ _ (q ++ (be8 (8 * s.size)).take (8 - 8))), hbr⟩
       case round =>
        obtain ⟨r, hr, rfl, hown, hbr⟩ := hrel
        have hsize := hbr.out.size
        by_cases hr0 : 0 < r
        · obtain ⟨j, rfl⟩ : ∃ j, r = j + 1 := ⟨r - 1, by omega⟩
          have hj : (((j + 1 : Nat) : Int) - 1) = (j : Int) := by omega
          rw [hj]
          have hj0 : (0 : Int) ≤ (j : Int) := by omega
          have hj8 : (j : Int) < 8 := by omega
          have hnext := take_next (be8 (8 * s.size)) (7 - j) (by rw [be8_length]; omega)
          rw [be8_get _ _ (by omega), show 7 - j + 1 = 8 - j by omega, show 7 - j = 8 - (j + 1) by omega] at hnext
          have hbl : ((be8 (8 * s.size)).take (8 - (j + 1))).length ≤ 8 := by simp [be8_length]; omega
          obtain ⟨B, hB⟩ : ∃ B, (be8 (8 * s.size)).take (8 - (j + 1)) = B := ⟨_, rfl⟩
          rw [hB] at hown hnext hbl
          obtain ⟨x, hx⟩ : ∃ x, 8 * s.size / 2 ^ (8 * j) % 256 = x := ⟨_, rfl⟩
          have hxi : 8 * (s.size : Int) / 2 ^ (8 * j) % 256 = (x : Int) := by rw [← hx]; simp
          rw [hx] at hnext
          have hql : (q ++ B).length + 1 ≤ 17592186044416 := by rw [List.length_append, HL.out]; omega
          have HN := Lib.hid hnext; have HX := Lib.hid hxi
          clear hnext hx hxi hB
          go_wp2_with (first | (at_builtin; refine walk_pushR8 (w0 := w) rfl _ _ rfl w.heap.size _ (q ++ B) [x] rfl (hown.out.alloc _) (hbr.out.alloc hsize _) (Nat.le_trans hsize (by simp)) wr.heap.size 0 1 1 rfl rfl (new_num1 .u8 wr _ x HX.out _) hql ?_; intro v5 W5 ho5 hb5))
          go_roundw
          case rel => exact ⟨j, by omega, by go_num, by rw [HN.out, ← List.append_assoc]; exact ho5, hb5⟩
          case measure => simp [RowKit.intOf]
        · have hr00 : r = 0 := by omega
          subst hr00
          have hneg : ¬ (0 : Int) ≤ ((0 : Nat) : Int) - 1 := by omega
          have hfin : ∀ v, Own8 wr w.heap.size v (q ++ (be8 (8 * s.size)).take (8 - 0)) → Own8 wr w.heap.size v (shaPad p) := by
           intro v h
           rw [HPD.out]
           rwa [List.take_of_length_le (by rw [be8_length]; omega)] at h
          have HF := Lib.hid hfin
          clear hfin
          go_wp2_with fail
          go_ret
          exact ⟨_, rfl, by rw [HP.out]; exact HF.out _ hown.out, hbr.out⟩
end Go.Proofs.YtnpfhcnjkekhbaaGreatDoor

namespace Go.Proofs.YtnpfhcnjkekhbaaGreatDoor
open Go Go.Proofs Go.RowKit Go.Lib
theorem below_same {n : Nat} {w W W' : World} (h : Below n w W) (ho : W'.os = W.os) (ht : W'.tape = W.tape) (hp : W'.output = W.output) (hh : W'.heap = W.heap) : Below n w W' :=
 ⟨ho.trans h.os, ht.trans h.tape, hp.trans h.output, by rw [hh]; exact h.size, fun k hk => by rw [hh]; exact h.block k hk⟩
theorem constants_any (w : World) :
 Calls Tryz.prog 106 #[] w fun e w' => ∃ g, e = .returned (.slice (some ⟨g, 0, none⟩) 64 64) ∧ NumsAt .u32 w' g 0 shaK ∧ g < w'.heap.size ∧ Below w.heap.size w w' := by
 go_enter Tryz.func106, Tryz.ntmps106
 go_wp2
 go_ret
 exact ⟨_, rfl, new_nums .u32 w shaK _, by simp, (Below.refl _ _).alloc (Nat.le_refl _) _⟩
theorem q_draw {P : Program} {f : FuncId} {args : Array Value} {w : World} {n : Nat} {v : Value} (c : ∀ W, Calls P f args W fun e w' => e = .returned v ∧ ∃ m, w' = W.drewN m) :
 Calls P f args (w.drewN n) fun e w'' => e = .returned v ∧ ∃ m, w'' = w.drewN m := (c _).mono fun _ _ ⟨he, m, hm⟩ => ⟨he, n + m, by rw [hm, World.drewN_drewN]⟩
theorem q_draw2 {P : Program} {f : FuncId} {args : Array Value} {w : World} {a n : Nat} {v : Value} (c : ∀ W, Calls P f args W fun e w' => e = .returned v ∧ ∃ m, w' = W.drewN m) :
 Calls P f args (w.drewN (a + n)) fun e w'' => e = .returned v ∧ ∃ m, w'' = w.drewN (a + m) := (c _).mono fun _ _ ⟨he, m, hm⟩ => ⟨he, n + m, by rw [hm, World.drewN_drewN, Nat.add_assoc]⟩
theorem rotated_lit (x n : Nat) (m : Int) (hm : m = (n : Nat)) (hx : x < 4294967296) (h1 : 1 ≤ n) (h2 : n ≤ 31) (w : World) :
 Calls Tryz.prog 105 #[.int .u32 (x : Nat), .int .i64 m] w fun e w' => e = .returned (.int .u32 ((rotr x n : Nat) : Int)) ∧ ∃ m, w' = w.drewN m := by
 subst hm; exact rotated_any x n hx h1 h2 w
theorem at8 (g o n c i : Nat) (z : Int) (hz : z = (i : Nat)) (hi : i < n) (w : World) :
 (Instr.indexAt 42 (.slice (some ⟨g, o, none⟩) n c) (.int .i64 z)).run Tryz.prog w = .ok (.pointer (some ⟨g, o + i, none⟩)) w := by
 subst hz
 have hs : ∀ w, (sizeOf (Tryz.prog.elem 42)).run Tryz.prog w = .ok 1 w := fun w => by kernel_rfl
 rw [run_indexAt_slice w 42 _ _ _ _ _ Tryz.underlying42, if_pos (by omega)]
 simp [hs, add_at, Result.andThen]
theorem at32 (g o n c i : Nat) (z : Int) (hz : z = (i : Nat)) (hi : i < n) (w : World) :
 (Instr.indexAt 124 (.slice (some ⟨g, o, none⟩) n c) (.int .i64 z)).run Tryz.prog w = .ok (.pointer (some ⟨g, o + i, none⟩)) w := by
 subst hz
 have hs : ∀ w, (sizeOf (Tryz.prog.elem 124)).run Tryz.prog w = .ok 1 w := fun w => by kernel_rfl
 rw [run_indexAt_slice w 124 _ _ _ _ _ Tryz.underlying124, if_pos (by omega)]
 simp [hs, add_at, Result.andThen]
theorem shl_or (a b i : Nat) (h : b < 2 ^ i) : a * 2 ^ i ||| b = a * 2 ^ i + b := by
 rw [← Nat.shiftLeft_eq]; exact (Nat.shiftLeft_add_eq_or_of_lt h a).symm
theorem or4 (x0 x1 x2 x3 : Nat) (h0 : x0 < 256) (h1 : x1 < 256) (h2 : x2 < 256) (h3 : x3 < 256) :
 (((x0 * 16777216 % 4294967296) ||| (x1 * 65536 % 4294967296)) ||| (x2 * 256 % 4294967296)) ||| x3 = ((x0 * 256 + x1) * 256 + x2) * 256 + x3 := by
 rw [Nat.mod_eq_of_lt (by omega), Nat.mod_eq_of_lt (by omega), Nat.mod_eq_of_lt (by omega)]
 rw [show x0 * 16777216 = x0 * 2 ^ 24 by omega, shl_or x0 _ 24 (by omega), show x0 * 2 ^ 24 + x1 * 65536 = (x0 * 256 + x1) * 2 ^ 16 by omega, shl_or _ _ 16 (by omega),
  show (x0 * 256 + x1) * 2 ^ 16 + x2 * 256 = ((x0 * 256 + x1) * 256 + x2) * 2 ^ 8 by omega, shl_or _ _ 8 (by omega)]
theorem mid32 {W W' : World} {base : Nat} {v : Value} {p : List Nat} (h : Own32 W base v p) {o : Obj} (e : W' = (W.alloc o).drew) : Own32 W' base v p := by subst e; exact (h.alloc o).heq rfl
theorem mid8 {W W' : World} {base : Nat} {v : Value} {p : List Nat} (h : Own8 W base v p) {o : Obj} (e : W' = (W.alloc o).drew) : Own8 W' base v p := by subst e; exact (h.alloc o).heq rfl
theorem mid_below {n : Nat} {w W W' : World} (h : Below n w W) (hn : n ≤ W.heap.size) {o : Obj} (e : W' = (W.alloc o).drew) : Below n w W' := by subst e; exact below_same (h.alloc hn o) rfl rfl rfl rfl
theorem mid_num1 {W W' : World} {k : IntKind} {x : Int} {t : TypeId} (n : Nat) (e : W' = (W.alloc (.cells #[.int k x] t)).drew) (hx : x = (n : Nat)) : NumsAt k W' W.heap.size 0 [n] := by subst e; exact (new_num1 k W x n hx t).heq rfl
theorem cell_mid {W W' : World} {p : Addr} {v : Value} (h : W.cell? p = some v) {o : Obj} (e : W' = (W.alloc o).drew) : W'.cell? p = some v := by
 subst e; exact (World.cell?_of_block (Below.heap_alloc W o p.block (World.block_lt_of_cell? W p h))).trans h
theorem mid_nums {W W' : World} {k : IntKind} {t : TypeId} (l : List Nat) (e : W' = (W.alloc (.cells (numVals k l).toArray t)).drew) : NumsAt k W' W.heap.size 0 l := by subst e; exact (new_nums k W l t).heq rfl
theorem words_next (b : List Nat) (k : Nat) : (List.range (k + 1)).map (beW b) = (List.range k).map (beW b) ++ [beW b k] := by simp [List.range_succ]
theorem block_any (s b : List Nat) (hsl : s.length = 8) (hS : ∀ x ∈ s, x < 4294967296) (hbl : b.length = 64) (hB : ∀ x ∈ b, x < 256) (gh ch gb ob cb : Nat) (w : World)
 (hh : NumsAt .u32 w gh 0 s) (hgh : gh < w.heap.size) (hb : NumsAt .u8 w gb ob b) (hgb : gb < w.heap.size) :
 Calls Tryz.prog 90 #[.slice (some ⟨gh, 0, none⟩) 8 ch, .slice (some ⟨gb, ob, none⟩) 64 cb] w fun e w' => ∃ v, e = .returned v ∧ Own32 w' w.heap.size v (comp s b) ∧ Below w.heap.size w w' := by
 have HH := Lib.hid hh; have HBB := Lib.hid hb; have HSL := Lib.hid hsl; have HBL := Lib.hid hbl
 clear hh hb hsl hbl
 go_enter Tryz.func90, Tryz.ntmps90
 go_wp2_with fail
 go_loopw [5, 6] (fun v i wr => ∃ k : Nat, k ≤ 16 ∧ i = .int .i64 k ∧ Hid (Own32 wr w.heap.size v ((List.range k).map (beW b))) ∧ Hid (Below w.heap.size w wr)) (fun _ i _ => 16 - (RowKit.intOf i).toNat)
 case atStart => exact ⟨0, by omega, rfl, Own32.nil _ _, Below.refl _ _⟩
 case round =>
  obtain ⟨k, hk, rfl, hown, hbr⟩ := hrel
  by_cases hlt : k < 16
  · have hk1 : (k : Int) < 16 := by omega
    have hk0 : (0 : Int) ≤ (k : Int) := by omega
    have hsize := hbr.out.size
    have hcb : ∀ W, Below w.heap.size w W → W.cell? ⟨gb, ob + (4 * k), none⟩ = some (.int .u8 ((b.getD (4 * k) 0 : Nat) : Int)) ∧ W.cell? ⟨gb, ob + (4 * k + 1), none⟩ = some (.int .u8 ((b.getD (4 * k + 1) 0 : Nat) : Int))
     ∧ W.cell? ⟨gb, ob + (4 * k + 2), none⟩ = some (.int .u8 ((b.getD (4 * k + 2) 0 : Nat) : Int)) ∧ W.cell? ⟨gb, ob + (4 * k + 3), none⟩ = some (.int .u8 ((b.getD (4 * k + 3) 0 : Nat) : Int)) := fun W h => by
     have hbw := HBB.out.below h hgb
     exact ⟨hbw _ (by rw [HBL.out]; omega), hbw _ (by rw [HBL.out]; omega), hbw _ (by rw [HBL.out]; omega), hbw _ (by rw [HBL.out]; omega)⟩
    have l0 := getD_byte hB (4 * k)
    have l1 := getD_byte hB (4 * k + 1)
    have l2 := getD_byte hB (4 * k + 2)
    have l3 := getD_byte hB (4 * k + 3)
    have hbe : beW b k = ((b.getD (4 * k) 0 * 256 + b.getD (4 * k + 1) 0) * 256 + b.getD (4 * k + 2) 0) * 256 + b.getD (4 * k + 3) 0 := rfl
    have hnext := words_next b k
    obtain ⟨x0, e0⟩ : ∃ x, b.getD (4 * k) 0 = x := ⟨_, rfl⟩
    obtain ⟨x1, e1⟩ : ∃ x, b.getD (4 * k + 1) 0 = x := ⟨_, rfl⟩
    obtain ⟨x2, e2⟩ : ∃ x, b.getD (4 * k + 2) 0 = x := ⟨_, rfl⟩
    obtain ⟨x3, e3⟩ : ∃ x, b.getD (4 * k + 3) 0 = x := ⟨_, rfl⟩
    rw [e0] at hcb l0 hbe
    rw [e1] at hcb l1 hbe
    rw [e2] at hcb l2 hbe
    rw [e3] at hcb l3 hbe
    rw [← or4 x0 x1 x2 x3 l0 l1 l2 l3] at hbe
    have m0 : x0 * 16777216 % 4294967296 < 4294967296 := Nat.mod_lt _ (by decide)
    have m1 : x1 * 65536 % 4294967296 < 4294967296 := Nat.mod_lt _ (by decide)
    have m2 : x2 * 256 % 4294967296 < 4294967296 := Nat.mod_lt _ (by decide)
    have m3 : x3 < 4294967296 := by omega
    have s0 : IntKind.u32.wrap ((x0 : Int) * 16777216) = ((x0 * 16777216 % 4294967296 : Nat) : Int) := by rw [IntKind.wrap_u32]; omega
    have s1 : IntKind.u32.wrap ((x1 : Int) * 65536) = ((x1 * 65536 % 4294967296 : Nat) : Int) := by rw [IntKind.wrap_u32]; omega
    have s2 : IntKind.u32.wrap ((x2 : Int) * 256) = ((x2 * 256 % 4294967296 : Nat) : Int) := by rw [IntKind.wrap_u32]; omega
    have i0 : IntKind.u32.wrap (x0 : Int) = (x0 : Int) := by rw [IntKind.wrap_u32]; omega
    have i1 : IntKind.u32.wrap (x1 : Int) = (x1 : Int) := by rw [IntKind.wrap_u32]; omega
    have i2 : IntKind.u32.wrap (x2 : Int) = (x2 : Int) := by rw [IntKind.wrap_u32]; omega
    have i3 : IntKind.u32.wrap (x3 : Int) = (x3 : Int) := by rw [IntKind.wrap_u32]; omega
    obtain ⟨A0, eA0⟩ : ∃ p, x0 * 16777216 % 4294967296 = p := ⟨_, rfl⟩
    obtain ⟨A1, eA1⟩ : ∃ p, x1 * 65536 % 4294967296 = p := ⟨_, rfl⟩
    obtain ⟨A2, eA2⟩ : ∃ p, x2 * 256 % 4294967296 = p := ⟨_, rfl⟩
    rw [eA0] at m0 s0 hbe
    rw [eA1] at m1 s1 hbe
    rw [eA2] at m2 s2 hbe
    have o1 := or32 m0 m1
    have n1 := or_lt32 m0 m1
    obtain ⟨p1, ep1⟩ : ∃ p, A0 ||| A1 = p := ⟨_, rfl⟩
    rw [ep1] at o1 n1 hbe
    have o2 := or32 n1 m2
    have n2 := or_lt32 n1 m2
    obtain ⟨p2, ep2⟩ : ∃ p, p1 ||| A2 = p := ⟨_, rfl⟩
    rw [ep2] at o2 n2 hbe
    have o3 := or32 n2 m3
    obtain ⟨p3, ep3⟩ : ∃ p, p2 ||| x3 = p := ⟨_, rfl⟩
    rw [ep3] at o3 hbe
    have v0 : IntKind.i64.wrap (4 * (k : Int)) = 4 * (k : Int) := IntWalk.i64_in _ (by omega)
    have v1 : IntKind.i64.wrap (4 * (k : Int) + 1) = 4 * (k : Int) + 1 := IntWalk.i64_in _ (by omega)
    have v2 : IntKind.i64.wrap (4 * (k : Int) + 2) = 4 * (k : Int) + 2 := IntWalk.i64_in _ (by omega)
    have v3 : IntKind.i64.wrap (4 * (k : Int) + 3) = 4 * (k : Int) + 3 := IntWalk.i64_in _ (by omega)
    have j0 := at8 gb ob 64 cb (4 * k) (4 * (k : Int)) (by omega) (by omega)
    have j1 := at8 gb ob 64 cb (4 * k + 1) (4 * (k : Int) + 1) (by omega) (by omega)
    have j2 := at8 gb ob 64 cb (4 * k + 2) (4 * (k : Int) + 2) (by omega) (by omega)
    have j3 := at8 gb ob 64 cb (4 * k + 3) (4 * (k : Int) + 3) (by omega) (by omega)
    obtain ⟨q, hq⟩ : ∃ q, (List.range k).map (beW b) = q := ⟨_, rfl⟩
    have hql : q.length + 1 ≤ 17592186044416 := by rw [← hq]; simp; omega
    rw [hq, hbe] at hnext
    rw [hq] at hown
    have HN := Lib.hid hnext; have HCB := Lib.hid hcb
    clear hnext hbe hq e0 e1 e2 e3 eA0 eA1 eA2 ep1 ep2 ep3 hcb m0 m1 m2 m3 n1 n2 l0 l1 l2 l3
    go_wp2_with fail
    go_region_held3 (fun W => W.cell? ⟨gb, ob + (4 * k), none⟩ = some (.int .u8 (x0 : Nat)) ∧ W.cell? ⟨gb, ob + (4 * k + 1), none⟩ = some (.int .u8 (x1 : Nat)) ∧ W.cell? ⟨gb, ob + (4 * k + 2), none⟩ = some (.int .u8 (x2 : Nat)) ∧ W.cell? ⟨gb, ob + (4 * k + 3), none⟩ = some (.int .u8 (x3 : Nat))) (first | exact HCB.out _ (below_same hbr.out rfl rfl rfl rfl) | exact HCB.out _ (mid_below hbr.out hsize rfl) | exact HCB.out _ hb3) ((refine step_push32 (w0 := w) rfl _ _ rfl w.heap.size _ q [p3] rfl (mid32 hown.out rfl) (mid_below hbr.out hsize rfl) (Nat.le_trans hsize (by simp)) wr.heap.size 0 1 1 rfl rfl (mid_num1 p3 rfl rfl) hql ?_; intro v3 W3 ho3 hb3 hg3))
    all_goals (go_wp2; go_roundw; (case rel => exact ⟨k + 1, by omega, by go_num, by rw [HN.out]; exact ho3, hb3⟩); (case measure => simp [RowKit.intOf]; omega))
  · have hk1 : ¬ (k : Int) < 16 := by omega
    have hk16 : k = 16 := by omega
    rw [hk16, show (List.range 16).map (beW b) = sched b 0 from rfl] at hown
    clear hk16 hk hlt
    go_wp2_with fail
    go_loopw [5, 7] (fun v i wr => ∃ k : Nat, 16 ≤ k ∧ k ≤ 64 ∧ i = .int .i64 k ∧ Hid (Own32 wr w.heap.size v (sched b (k - 16))) ∧ Hid (Below w.heap.size w wr)) (fun _ i _ => 64 - (RowKit.intOf i).toNat)
    case atStart => exact ⟨16, by omega, by omega, rfl, hown, hbr⟩
    case round =>
     obtain ⟨k, hk16, hk, rfl, hown, hbr⟩ := hrel
     by_cases hlt : k < 64
     · have hk1 : (k : Int) < 64 := by omega
       have hk2 : (16 : Int) ≤ (k : Int) := by omega
       have hsl := sched_length b (k - 16)
       have hw : wNext (sched b (k - 16)) = add32 (add32 (add32 ((sched b (k - 16)).getD (k - 16) 0) (sg0 ((sched b (k - 16)).getD (k - 15) 0))) ((sched b (k - 16)).getD (k - 7) 0)) (sg1 ((sched b (k - 16)).getD (k - 2) 0)) := by
        unfold wNext; rw [hsl, show 16 + (k - 16) = k by omega]
       have hnext : sched b (k + 1 - 16) = sched b (k - 16) ++ [wNext (sched b (k - 16))] := by rw [show k + 1 - 16 = (k - 16) + 1 by omega]; rfl
       have hSL := sched_lt hB (k - 16)
       obtain ⟨L, hL⟩ : ∃ L, sched b (k - 16) = L := ⟨_, rfl⟩
       rw [hL] at hw hnext hown hsl hSL
       obtain ⟨g, cap, rfl, hcap, hbg, hgl, hnm, _⟩ := hown.out.form k (by omega) (by omega)
       have c16 := hnm (k - 16) (by omega)
       have c15 := hnm (k - 15) (by omega)
       have c7 := hnm (k - 7) (by omega)
       have c2 := hnm (k - 2) (by omega)
       rw [Nat.zero_add] at c16 c15 c7 c2
       have x16l := getD_word hSL (k - 16)
       have x15l := getD_word hSL (k - 15)
       have x7l := getD_word hSL (k - 7)
       have x2l := getD_word hSL (k - 2)
       obtain ⟨x16, e16⟩ : ∃ x, L.getD (k - 16) 0 = x := ⟨_, rfl⟩
       obtain ⟨x15, e15⟩ : ∃ x, L.getD (k - 15) 0 = x := ⟨_, rfl⟩
       obtain ⟨x7, e7⟩ : ∃ x, L.getD (k - 7) 0 = x := ⟨_, rfl⟩
       obtain ⟨x2, e2⟩ : ∃ x, L.getD (k - 2) 0 = x := ⟨_, rfl⟩
       rw [e16] at c16 x16l hw
       rw [e15] at c15 x15l hw
       rw [e7] at c7 x7l hw
       rw [e2] at c2 x2l hw
       have k7 := fun W => rotated_lit x15 7 7 rfl x15l (by decide) (by decide) W
       have k18 := fun W => rotated_lit x15 18 18 rfl x15l (by decide) (by decide) W
       have k17 := fun W => rotated_lit x2 17 17 rfl x2l (by decide) (by decide) W
       have k19 := fun W => rotated_lit x2 19 19 rfl x2l (by decide) (by decide) W
       have l7 := rotr_lt (n := 7) x15l
       have l18 := rotr_lt (n := 18) x15l
       have l17 := rotr_lt (n := 17) x2l
       have l19 := rotr_lt (n := 19) x2l
       have hs0 : sg0 x15 = (rotr x15 7 ^^^ rotr x15 18) ^^^ (x15 / 8) := rfl
       have hs1 : sg1 x2 = (rotr x2 17 ^^^ rotr x2 19) ^^^ (x2 / 1024) := rfl
       obtain ⟨r7, er7⟩ : ∃ r, rotr x15 7 = r := ⟨_, rfl⟩
       obtain ⟨r18, er18⟩ : ∃ r, rotr x15 18 = r := ⟨_, rfl⟩
       obtain ⟨r17, er17⟩ : ∃ r, rotr x2 17 = r := ⟨_, rfl⟩
       obtain ⟨r19, er19⟩ : ∃ r, rotr x2 19 = r := ⟨_, rfl⟩
       rw [er7] at k7 l7 hs0
       rw [er18] at k18 l18 hs0
       rw [er17] at k17 l17 hs1
       rw [er19] at k19 l19 hs1
       have pl := xor_lt32 l7 l18
       have ql := xor_lt32 l17 l19
       have a1 := xor32 l7 l18
       have a2 := xor32 l17 l19
       obtain ⟨p, ep⟩ : ∃ p, r7 ^^^ r18 = p := ⟨_, rfl⟩
       obtain ⟨q, eq⟩ : ∃ q, r17 ^^^ r19 = q := ⟨_, rfl⟩
       rw [ep] at pl a1 hs0
       rw [eq] at ql a2 hs1
       have a3 : bits .xor .u32 (p : Int) ((x15 : Int) / 8) = ((sg0 x15 : Nat) : Int) := by
        rw [show (x15 : Int) / 8 = ((x15 / 8 : Nat) : Int) by omega, xor32 pl (by omega), hs0]
       have a4 : bits .xor .u32 (q : Int) ((x2 : Int) / 1024) = ((sg1 x2 : Nat) : Int) := by
        rw [show (x2 : Int) / 1024 = ((x2 / 1024 : Nat) : Int) by omega, xor32 ql (by omega), hs1]
       obtain ⟨s0, es0⟩ : ∃ s, sg0 x15 = s := ⟨_, rfl⟩
       obtain ⟨s1, es1⟩ : ∃ s, sg1 x2 = s := ⟨_, rfl⟩
       rw [es0] at a3 hw
       rw [es1] at a4 hw
       have b1 := wadd32 x16 s0
       obtain ⟨t1, et1⟩ : ∃ t, add32 x16 s0 = t := ⟨_, rfl⟩
       rw [et1] at b1 hw
       have b2 := wadd32 t1 x7
       obtain ⟨t2, et2⟩ : ∃ t, add32 t1 x7 = t := ⟨_, rfl⟩
       rw [et2] at b2 hw
       have b3 := wadd32 t2 s1
       obtain ⟨t3, et3⟩ : ∃ t, add32 t2 s1 = t := ⟨_, rfl⟩
       rw [et3] at b3 hw
       rw [hw] at hnext
       have v16 : IntKind.i64.wrap ((k : Int) - 16) = (k : Int) - 16 := IntWalk.i64_in _ (by omega)
       have v15 : IntKind.i64.wrap ((k : Int) - 15) = (k : Int) - 15 := IntWalk.i64_in _ (by omega)
       have v7 : IntKind.i64.wrap ((k : Int) - 7) = (k : Int) - 7 := IntWalk.i64_in _ (by omega)
       have v2 : IntKind.i64.wrap ((k : Int) - 2) = (k : Int) - 2 := IntWalk.i64_in _ (by omega)
       have j16 := fun w => at32 g 0 k cap (k - 16) ((k : Int) - 16) (by omega) (by omega) w
       have j15 := fun w => at32 g 0 k cap (k - 15) ((k : Int) - 15) (by omega) (by omega) w
       have j7 := fun w => at32 g 0 k cap (k - 7) ((k : Int) - 7) (by omega) (by omega) w
       have j2 := fun w => at32 g 0 k cap (k - 2) ((k : Int) - 2) (by omega) (by omega) w
       rw [Nat.zero_add] at j16 j15 j7 j2
       have hsize := hbr.out.size
       have hql : L.length + 1 ≤ 17592186044416 := by omega
       have HN := Lib.hid hnext; have K7 := Lib.hid k7; have K18 := Lib.hid k18; have K17 := Lib.hid k17; have K19 := Lib.hid k19; have HSL2 := Lib.hid hsl
       clear hnext k7 k18 k17 k19 hs0 hs1 er7 er18 er17 er19 ep eq es0 es1 et1 et2 et3 e16 e15 e7 e2 hw hL hnm hSL hsl
       go_wp2_with fail
       go_quiet ((first | (go_at_call 105; with_reducible exact q_draw K7.out) | (go_at_call 105; with_reducible exact q_draw K18.out) | (go_at_call 105; with_reducible exact q_draw2 K7.out) | (go_at_call 105; with_reducible exact q_draw2 K18.out)))
       generalize nq = m1
       go_wp2_with fail
       go_quiet ((first | (go_at_call 105; with_reducible exact q_draw K17.out) | (go_at_call 105; with_reducible exact q_draw K19.out) | (go_at_call 105; with_reducible exact q_draw2 K17.out) | (go_at_call 105; with_reducible exact q_draw2 K19.out)))
       generalize hW2 : (wr.drewN m1).drewN nq = W2
       have hheap : W2.heap = wr.heap := by rw [← hW2]; rfl
       have hown2 := hown.out.heq hheap
       have hbr2 : Below w.heap.size w W2 := below_same hbr.out (by rw [← hW2]; rfl) (by rw [← hW2]; rfl) (by rw [← hW2]; rfl) hheap
       have d16 : W2.cell? ⟨g, k - 16, none⟩ = some (.int .u32 (x16 : Nat)) := (World.cell?_of_block (by rw [hheap])).trans c16
       have d7 : W2.cell? ⟨g, k - 7, none⟩ = some (.int .u32 (x7 : Nat)) := (World.cell?_of_block (by rw [hheap])).trans c7
       have hsize2 := hbr2.size
       clear hW2 hheap c16 c15 c7 c2 hown hbr a1 a2 a3 a4 pl ql l7 l18 l17 l19 K7 K18 K17 K19 hsize
       go_wp2_with fail
       go_region_law ((refine step_push32 (w0 := w) rfl _ _ rfl w.heap.size _ L [t3] rfl (mid32 hown2 rfl) (mid_below hbr2 hsize2 rfl) (Nat.le_trans hsize2 (by simp)) W2.heap.size 0 1 1 rfl rfl (mid_num1 t3 rfl rfl) hql ?_; intro v3 W3 ho3 hb3 hg3))
       all_goals (go_wp2; go_roundw; (case rel => exact ⟨k + 1, by omega, by omega, by go_num, by rw [HN.out]; exact ho3, hb3⟩); (case measure => simp [RowKit.intOf]; omega))
     · have hk1 : ¬ (k : Int) < 64 := by omega
       have hk64 : k = 64 := by omega
       rw [hk64, show 64 - 16 = 48 by rfl] at hown
       have hsl := sched_length b 48
       have hSW := sched_lt hB 48
       obtain ⟨gw, capw, rfl, _, _, hgw, hnw, _⟩ := hown.out.form 64 hsl (by omega)
       clear hown hsl
       have HNW := Lib.hid hnw
       have HSW := Lib.hid hSW
       clear hnw hSW
       go_wp2_with fail
       refine (constants_any _).mono ?_
       rintro e w2 ⟨gk, rfl, hnk, hgk, b2⟩
       have hb2 : Below w.heap.size w w2 := hbr.out.trans (b2.mono hbr.out.size)
       have hnw2 := HNW.out.below b2 hgw
       have hgw2 : gw < w2.heap.size := Nat.lt_of_lt_of_le hgw b2.size
       have hh2 := HH.out.below hb2 hgh
       have hgh2 : gh < w2.heap.size := Nat.lt_of_lt_of_le hgh hb2.size
       have HB2 := Lib.hid hb2; have HNK := Lib.hid hnk; have HNW2 := Lib.hid hnw2; have HH2 := Lib.hid hh2
       clear hb2 hnk hnw2 hh2 HNW b2 hbr hgw
       go_wp2_with (first | (at_builtin; refine walk_push32 (w0 := w2) rfl _ _ rfl w2.heap.size _ [] s rfl (Own32.nil _ _) (Below.refl _ _) (Nat.le_refl _) gh 0 8 ch rfl HSL.out HH2.out (by simp) ?_; intro v3 W3 ho3 hb3))
       obtain ⟨gv, capv, rfl, _, hgv1, hgv, hnv, _⟩ := ho3.form 8 (by simpa using HSL.out) (by omega)
       rw [List.nil_append] at hnv
       have hB3 : Below w.heap.size w W3 := HB2.out.trans (hb3.mono HB2.out.size)
       have hk3 := HNK.out.below hb3 hgk
       have hw3 := HNW2.out.below hb3 hgw2
       have hh3 := HH2.out.below hb3 hgh2
       have hz3 := hb3.size
       have HB3 := Lib.hid hB3; have HK3 := Lib.hid hk3; have HW3 := Lib.hid hw3; have HH3 := Lib.hid hh3; have HV3 := Lib.hid hnv
       have hgk3 : gk < W3.heap.size := by omega
       have hgw3 : gw < W3.heap.size := by omega
       have hgh3 : gh < W3.heap.size := by omega
       clear hB3 hk3 hw3 hh3 hnv ho3 hb3 HB2 HNK HNW2 HH2 hgk hgw2 hgh2 hz3 hgv1
       go_wp2_with fail
       go_loopw [11, 12] (fun v i wr => ∃ (k gv cv : Nat), k ≤ 64 ∧ i = .int .i64 k ∧ v = .slice (some ⟨gv, 0, none⟩) 8 cv ∧ gv < wr.heap.size ∧ Hid (NumsAt .u32 wr gv 0 (rnds (sched b 48) s k)) ∧ Hid (Below W3.heap.size W3 wr)) (fun _ i _ => 64 - (RowKit.intOf i).toNat)
       case atStart => exact ⟨0, gv, capv, by omega, rfl, rfl, hgv, HV3.out, Below.refl _ _⟩
       case round =>
        obtain ⟨k, gv, cv, hk, rfl, rfl, hgv, hnv, hbr⟩ := hrel
        by_cases hlt : k < 64
        · have hk1 : (k : Int) < 64 := by omega
          have hk2 : (0 : Int) ≤ (k : Int) := by omega
          have hlen := rnds_length (sched b 48) s HSL.out k
          obtain ⟨a, b1, c, d, e, f, g, h, hr⟩ := eight hlen
          have hall := rnds_lt (sched b 48) hS k
          rw [hr] at hall hnv
          have la := hall a (by simp); have lb := hall b1 (by simp); have lc := hall c (by simp); have ld := hall d (by simp)
          have le := hall e (by simp); have lf := hall f (by simp); have lg := hall g (by simp); have lh := hall h (by simp)
          have hnext : rnds (sched b 48) s (k + 1) = [add32 (shaT e f g h (shaK.getD k 0) ((sched b 48).getD k 0)) (shaU a b1 c), a, b1, c, add32 d (shaT e f g h (shaK.getD k 0) ((sched b 48).getD k 0)), e, f, g] := by
           rw [rnds, hr]; rfl
          have c0 : wr.cell? ⟨gv, 0, none⟩ = some (.int .u32 (a : Nat)) := hnv.out 0 (by simp)
          have c1 : wr.cell? ⟨gv, 1, none⟩ = some (.int .u32 (b1 : Nat)) := hnv.out 1 (by simp)
          have c2 : wr.cell? ⟨gv, 2, none⟩ = some (.int .u32 (c : Nat)) := hnv.out 2 (by simp)
          have c3 : wr.cell? ⟨gv, 3, none⟩ = some (.int .u32 (d : Nat)) := hnv.out 3 (by simp)
          have c4 : wr.cell? ⟨gv, 4, none⟩ = some (.int .u32 (e : Nat)) := hnv.out 4 (by simp)
          have c5 : wr.cell? ⟨gv, 5, none⟩ = some (.int .u32 (f : Nat)) := hnv.out 5 (by simp)
          have c6 : wr.cell? ⟨gv, 6, none⟩ = some (.int .u32 (g : Nat)) := hnv.out 6 (by simp)
          have c7 : wr.cell? ⟨gv, 7, none⟩ = some (.int .u32 (h : Nat)) := hnv.out 7 (by simp)
          have ck := (HK3.out.below hbr.out hgk3) k (by show k < 64; omega)
          have cw := (HW3.out.below hbr.out hgw3) k (by rw [sched_length]; omega)
          rw [Nat.zero_add] at ck cw
          have lk := getD_word shaK_lt k
          have lw := getD_word HSW.out k
          have hT : shaT e f g h (shaK.getD k 0) ((sched b 48).getD k 0) = add32 (add32 (add32 (add32 h ((rotr e 6 ^^^ rotr e 11) ^^^ rotr e 25)) ((e &&& f) ^^^ ((4294967295 - e) &&& g))) (shaK.getD k 0)) ((sched b 48).getD k 0) := rfl
          have hU : shaU a b1 c = add32 ((rotr a 2 ^^^ rotr a 13) ^^^ rotr a 22) (((a &&& b1) ^^^ (a &&& c)) ^^^ (b1 &&& c)) := rfl
          obtain ⟨kk, ekk⟩ : ∃ x, shaK.getD k 0 = x := ⟨_, rfl⟩
          obtain ⟨ww, eww⟩ : ∃ x, (sched b 48).getD k 0 = x := ⟨_, rfl⟩
          rw [ekk] at ck lk
          rw [eww] at cw lw
          rw [ekk, eww] at hT hnext
          obtain ⟨T, eT⟩ : ∃ x, shaT e f g h kk ww = x := ⟨_, rfl⟩
          obtain ⟨U, eU⟩ : ∃ x, shaU a b1 c = x := ⟨_, rfl⟩
          rw [eT] at hT hnext
          rw [eU] at hU hnext
          have k6 := fun W => rotated_lit e 6 6 rfl le (by decide) (by decide) W
          have k11 := fun W => rotated_lit e 11 11 rfl le (by decide) (by decide) W
          have k25 := fun W => rotated_lit e 25 25 rfl le (by decide) (by decide) W
          have k2 := fun W => rotated_lit a 2 2 rfl la (by decide) (by decide) W
          have k13 := fun W => rotated_lit a 13 13 rfl la (by decide) (by decide) W
          have k22 := fun W => rotated_lit a 22 22 rfl la (by decide) (by decide) W
          have l6 := rotr_lt (n := 6) le
          have l11 := rotr_lt (n := 11) le
          have l25 := rotr_lt (n := 25) le
          have l2 := rotr_lt (n := 2) la
          have l13 := rotr_lt (n := 13) la
          have l22 := rotr_lt (n := 22) la
          obtain ⟨r6, e6⟩ : ∃ x, rotr e 6 = x := ⟨_, rfl⟩
          obtain ⟨r11, e11⟩ : ∃ x, rotr e 11 = x := ⟨_, rfl⟩
          obtain ⟨r25, e25⟩ : ∃ x, rotr e 25 = x := ⟨_, rfl⟩
          obtain ⟨r2, e2⟩ : ∃ x, rotr a 2 = x := ⟨_, rfl⟩
          obtain ⟨r13, e13⟩ : ∃ x, rotr a 13 = x := ⟨_, rfl⟩
          obtain ⟨r22, e22⟩ : ∃ x, rotr a 22 = x := ⟨_, rfl⟩
          rw [e6] at k6 l6 hT; rw [e11] at k11 l11 hT; rw [e25] at k25 l25 hT
          rw [e2] at k2 l2 hU; rw [e13] at k13 l13 hU; rw [e22] at k22 l22 hU
          have x1 := xor32 l6 l11
          have m1 := xor_lt32 l6 l11
          obtain ⟨p1, ep1⟩ : ∃ x, r6 ^^^ r11 = x := ⟨_, rfl⟩
          rw [ep1] at x1 m1 hT
          have x2 := xor32 m1 l25
          have m2 := xor_lt32 m1 l25
          obtain ⟨p2, ep2⟩ : ∃ x, p1 ^^^ r25 = x := ⟨_, rfl⟩
          rw [ep2] at x2 m2 hT
          have x4 := and32 le lf
          have m4 := and_lt32 f le
          obtain ⟨p4, ep4⟩ : ∃ x, e &&& f = x := ⟨_, rfl⟩
          rw [ep4] at x4 m4 hT
          have x5 := not32 le
          have x5' : bits BinOp.xor IntKind.u32 (if IntKind.u32.signed = true then -1 else IntKind.u32.max) (e : Int) = ((4294967295 - e : Nat) : Int) := x5
          have m5 : 4294967295 - e < 4294967296 := by omega
          obtain ⟨p5, ep5⟩ : ∃ x, 4294967295 - e = x := ⟨_, rfl⟩
          rw [ep5] at x5 x5' m5 hT
          have x6 := and32 m5 lg
          have m6 := and_lt32 g m5
          obtain ⟨p6, ep6⟩ : ∃ x, p5 &&& g = x := ⟨_, rfl⟩
          rw [ep6] at x6 m6 hT
          have x7 := xor32 m4 m6
          obtain ⟨p7, ep7⟩ : ∃ x, p4 ^^^ p6 = x := ⟨_, rfl⟩
          rw [ep7] at x7 hT
          have y1 := xor32 l2 l13
          have n1 := xor_lt32 l2 l13
          obtain ⟨q1, eq1⟩ : ∃ x, r2 ^^^ r13 = x := ⟨_, rfl⟩
          rw [eq1] at y1 n1 hU
          have y2 := xor32 n1 l22
          obtain ⟨q2, eq2⟩ : ∃ x, q1 ^^^ r22 = x := ⟨_, rfl⟩
          rw [eq2] at y2 hU
          have y3 := and32 la lb
          have n3 := and_lt32 b1 la
          obtain ⟨q3, eq3⟩ : ∃ x, a &&& b1 = x := ⟨_, rfl⟩
          rw [eq3] at y3 n3 hU
          have y4 := and32 la lc
          have n4 := and_lt32 c la
          obtain ⟨q4, eq4⟩ : ∃ x, a &&& c = x := ⟨_, rfl⟩
          rw [eq4] at y4 n4 hU
          have y5 := xor32 n3 n4
          have n5 := xor_lt32 n3 n4
          obtain ⟨q5, eq5⟩ : ∃ x, q3 ^^^ q4 = x := ⟨_, rfl⟩
          rw [eq5] at y5 n5 hU
          have y6 := and32 lb lc
          have n6 := and_lt32 c lb
          obtain ⟨q6, eq6⟩ : ∃ x, b1 &&& c = x := ⟨_, rfl⟩
          rw [eq6] at y6 n6 hU
          have y7 := xor32 n5 n6
          obtain ⟨q7, eq7⟩ : ∃ x, q5 ^^^ q6 = x := ⟨_, rfl⟩
          rw [eq7] at y7 hU
          have hTT : (((h : Int) + (p2 : Int) + (p7 : Int) + (kk : Int)) % 4294967296 + (ww : Int)) % 4294967296 = (T : Int) := by rw [hT]; unfold add32; omega
          have hUU : ((q2 : Int) + (q7 : Int)) % 4294967296 = (U : Int) := by rw [hU]; unfold add32; omega
          have w6 := wadd32 T U
          have w7 := wadd32 d T
          obtain ⟨dT, edT⟩ : ∃ x, add32 d T = x := ⟨_, rfl⟩
          obtain ⟨tU, etU⟩ : ∃ x, add32 T U = x := ⟨_, rfl⟩
          rw [edT] at w7 hnext
          rw [etU] at w6 hnext
          have hsize := hbr.out.size
          have HX := Lib.hid hnext; have K6 := Lib.hid k6; have K11 := Lib.hid k11; have K25 := Lib.hid k25; have K2 := Lib.hid k2; have K13 := Lib.hid k13; have K22 := Lib.hid k22
          clear hr hall hlen hnext hT hU ekk eww eT eU e6 e11 e25 e2 e13 e22 k6 k11 k25 k2 k13 k22 ep1 ep2 ep4 ep5 ep6 ep7 eq1 eq2 eq3 eq4 eq5 eq6 eq7 edT etU hnv
          go_wp2_with fail
          go_quiet ((first | (go_at_call 105; with_reducible exact q_draw K6.out) | (go_at_call 105; with_reducible exact q_draw K11.out) | (go_at_call 105; with_reducible exact q_draw K25.out)))
          generalize nq = m1
          rw [hTT]
          go_wp2_with fail
          go_quiet ((first | (go_at_call 105; with_reducible exact q_draw K2.out) | (go_at_call 105; with_reducible exact q_draw K13.out) | (go_at_call 105; with_reducible exact q_draw K22.out) | (go_at_call 105; with_reducible exact q_draw2 K2.out) | (go_at_call 105; with_reducible exact q_draw2 K13.out) | (go_at_call 105; with_reducible exact q_draw2 K22.out)))
          rw [hUU]
          generalize hW2 : (wr.drewN m1).drewN nq = W2
          have hheap : W2.heap = wr.heap := by rw [← hW2]; rfl
          have hbr2 : Below W3.heap.size W3 W2 := below_same hbr.out (by rw [← hW2]; rfl) (by rw [← hW2]; rfl) (by rw [← hW2]; rfl) hheap
          have d1 : W2.cell? ⟨gv, 1, none⟩ = some (.int .u32 (b1 : Nat)) := (World.cell?_of_block (by rw [hheap])).trans c1
          have d2 : W2.cell? ⟨gv, 2, none⟩ = some (.int .u32 (c : Nat)) := (World.cell?_of_block (by rw [hheap])).trans c2
          have d3 : W2.cell? ⟨gv, 3, none⟩ = some (.int .u32 (d : Nat)) := (World.cell?_of_block (by rw [hheap])).trans c3
          have d5 : W2.cell? ⟨gv, 5, none⟩ = some (.int .u32 (f : Nat)) := (World.cell?_of_block (by rw [hheap])).trans c5
          have d6 : W2.cell? ⟨gv, 6, none⟩ = some (.int .u32 (g : Nat)) := (World.cell?_of_block (by rw [hheap])).trans c6
          have hsize2 := hbr2.size
          clear hW2 hheap c0 c1 c2 c3 c4 c5 c6 c7 ck cw hbr x1 x2 x4 x5 x5' x6 x7 y1 y2 y3 y4 y5 y6 y7 m1 m2 m4 m5 m6 n1 n3 n4 n5 n6 hTT hUU K6 K11 K25 K2 K13 K22 hsize l6 l11 l25 l2 l13 l22
          go_wp2_with fail
          go_region_held3 (fun W => W.cell? ⟨gv, 1, none⟩ = some (.int .u32 (b1 : Nat)) ∧ W.cell? ⟨gv, 2, none⟩ = some (.int .u32 (c : Nat)) ∧ W.cell? ⟨gv, 3, none⟩ = some (.int .u32 (d : Nat)) ∧ W.cell? ⟨gv, 5, none⟩ = some (.int .u32 (f : Nat)) ∧ W.cell? ⟨gv, 6, none⟩ = some (.int .u32 (g : Nat)))
           (first | exact ⟨d1, d2, d3, d5, d6⟩ | exact ⟨cell_mid d1 rfl, cell_mid d2 rfl, cell_mid d3 rfl, cell_mid d5 rfl, cell_mid d6 rfl⟩) (fail)
          all_goals (go_wp2; go_roundw; (case rel => exact ⟨k + 1, W2.heap.size, 8, by omega, by go_num, rfl, by simp, by rw [HX.out]; exact mid_nums [tU, a, b1, c, dT, e, f, g] rfl, mid_below hbr2 hsize2 rfl⟩); (case measure => simp [RowKit.intOf]; omega))
        · have hk1 : ¬ (k : Int) < 64 := by omega
          have hk64 : k = 64 := by omega
          rw [hk64] at hnv
          have hcmp : comp s b = addL s (rnds (sched b 48) s 64) := rfl
          have hLl := rnds_length (sched b 48) s HSL.out 64
          have hLt := rnds_lt (sched b 48) hS 64
          have hB4 : Below w.heap.size w wr := HB3.out.trans (hbr.out.mono HB3.out.size)
          have hh4 := HH3.out.below hbr.out hgh3
          have hgh4 : gh < wr.heap.size := Nat.lt_of_lt_of_le hgh3 hbr.out.size
          obtain ⟨L, hL⟩ : ∃ L, rnds (sched b 48) s 64 = L := ⟨_, rfl⟩
          rw [hL] at hnv hcmp hLl hLt
          obtain ⟨W4, hW4⟩ : ∃ W : World, W = wr := ⟨_, rfl⟩
          rw [← hW4] at hnv hB4 hh4 hgh4 hgv ⊢
          have HV4 := Lib.hid hnv.out; have HB4 := Lib.hid hB4; have HH4 := Lib.hid hh4; have HCM := Lib.hid hcmp; have HLL := Lib.hid hLl; have HLT := Lib.hid hLt
          clear hk64 hk hlt hnv hB4 hh4 hbr hW4 hcmp hLl hLt hL HB3 HK3 HW3 HH3 HV3 HSW
          go_wp2_with fail
          go_loopw [17, 18] (fun v i wr => ∃ k : Nat, k ≤ 8 ∧ i = .int .i64 k ∧ Hid (Own32 wr W4.heap.size v ((addL s L).take k)) ∧ Hid (Below W4.heap.size W4 wr)) (fun _ i _ => 8 - (RowKit.intOf i).toNat)
          case atStart => exact ⟨0, by omega, rfl, Own32.nil _ _, Below.refl _ _⟩
          case round =>
           obtain ⟨k, hk, rfl, hown, hbr⟩ := hrel
           by_cases hlt : k < 8
           · have hk1 : (k : Int) < 8 := by omega
             have hk2 : (0 : Int) ≤ (k : Int) := by omega
             have hsize := hbr.out.size
             have hcb : ∀ W, Below W4.heap.size W4 W → W.cell? ⟨gh, k, none⟩ = some (.int .u32 ((s.getD k 0 : Nat) : Int)) ∧ W.cell? ⟨gv, k, none⟩ = some (.int .u32 ((L.getD k 0 : Nat) : Int)) := fun W hW => by
              have e1 := HH4.out.below hW hgh4 k (by rw [HSL.out]; omega)
              have e2 := HV4.out.below hW hgv k (by rw [HLL.out]; omega)
              rw [Nat.zero_add] at e1 e2
              exact ⟨e1, e2⟩
             have hnext := take_next (addL s L) k (by rw [addL_length _ _ (by rw [HSL.out, HLL.out]), HSL.out]; exact hlt)
             rw [addL_get s L k (by rw [HSL.out, HLL.out]) (by rw [HSL.out]; exact hlt)] at hnext
             obtain ⟨x, ex⟩ : ∃ x, s.getD k 0 = x := ⟨_, rfl⟩
             obtain ⟨y, ey⟩ : ∃ x, L.getD k 0 = x := ⟨_, rfl⟩
             rw [ex] at hcb hnext
             rw [ey] at hcb hnext
             have z := wadd32 x y
             obtain ⟨r, hr⟩ : ∃ r, add32 x y = r := ⟨_, rfl⟩
             rw [hr] at z hnext
             obtain ⟨q, hq⟩ : ∃ q, (addL s L).take k = q := ⟨_, rfl⟩
             have hql : q.length + 1 ≤ 17592186044416 := by rw [← hq, List.length_take]; omega
             rw [hq] at hown hnext
             have HN := Lib.hid hnext; have HCB := Lib.hid hcb
             clear hnext hcb ex ey hr hq
             go_wp2_with fail
             go_region_held3 (fun W => W.cell? ⟨gh, k, none⟩ = some (.int .u32 (x : Nat)) ∧ W.cell? ⟨gv, k, none⟩ = some (.int .u32 (y : Nat)))
              (first | exact HCB.out _ (below_same hbr.out rfl rfl rfl rfl) | exact HCB.out _ (mid_below hbr.out hsize rfl) | exact HCB.out _ hb3)
              ((refine step_push32 (w0 := W4) rfl _ _ rfl W4.heap.size _ q [r] rfl (mid32 hown.out rfl) (mid_below hbr.out hsize rfl) (Nat.le_trans hsize (by simp)) wr.heap.size 0 1 1 rfl rfl (mid_num1 r rfl rfl) hql ?_; intro v3 W3 ho3 hb3 hg3))
             all_goals (go_wp2; go_roundw; (case rel => exact ⟨k + 1, by omega, by go_num, by rw [HN.out]; exact ho3, hb3⟩); (case measure => simp [RowKit.intOf]; omega))
           · have hk1 : ¬ (k : Int) < 8 := by omega
             have hk8 : k = 8 := by omega
             have hfin : ∀ v, Own32 wr W4.heap.size v ((addL s L).take 8) → Own32 wr w.heap.size v (comp s b) := by
              intro v h
              rw [List.take_of_length_le (by rw [addL_length _ _ (by rw [HSL.out, HLL.out]), HSL.out]; omega), ← HCM.out] at h
              exact own_base h HB4.out.size
             have hbf : Below w.heap.size w wr := HB4.out.trans (hbr.out.mono HB4.out.size)
             subst hk8
             have HF := Lib.hid hfin
             clear hfin
             go_wp2_with fail
             go_ret
             exact ⟨_, rfl, HF.out _ hown.out, hbf⟩
end Go.Proofs.YtnpfhcnjkekhbaaGreatDoor

namespace Go.Proofs.YtnpfhcnjkekhbaaGreatDoor
open Go Go.Proofs Go.RowKit Go.Lib
theorem u8_elem : Tryz.prog.underlying 42 = some (.slice (Tryz.prog.elem 42)) := by kernel_rfl
theorem u8_size (w : World) : (Go.sizeOf (Tryz.prog.elem 42)).run Tryz.prog w = .ok 1 w := by kernel_rfl
theorem slice_64 (g n c i : Nat) (hi : i + 64 ≤ c) (w : World) :
 (Instr.slice 42 (.slice (some ⟨g, 0, none⟩) n c) (some (.int .i64 (i : Nat))) (some (.int .i64 ((i : Int) + 64))) none).run Tryz.prog w = .ok (.slice (some ⟨g, i, none⟩) 64 (c - i)) w := by
 have h2 : ¬ c = i := by omega
 rw [run_slice_lh w _ _ _ _ u8_elem .i64 .i64 _ _ (by omega) (by omega) (by omega), u8_size]
 simp [Result.andThen, sliced, Addr.add, h2]
 omega
theorem word4_next (S : List Nat) (k : Nat) (h : k < S.length) : (S.take (k + 1)).flatMap word4 = (S.take k).flatMap word4 ++ word4 (S.getD k 0) := by
 rw [take_next S k h, List.flatMap_append]; simp
theorem nums_shaL {W : World} {g : Nat} {M : List Nat} (h : NumsAt .u8 W g 0 (shaN M)) : Bytes W g 0 (shaL M) := by
 intro i hi
 have hl : (shaL M).size = 32 := by
  show ((shaN M).map Nat.toUInt8).toArray.size = 32
  rw [List.size_toArray, List.length_map, shaN_length]
 rw [h i (by rw [shaN_length]; omega)]
 have hb : (shaN M).getD i 0 < 256 := getD_byte (word4s_lt _) i
 have e : ((shaL M)[i]).toNat = (shaN M).getD i 0 := by
  have e1 : (shaL M)[i] = ((shaN M).map Nat.toUInt8).toArray[i]'(by simp [shaN_length]; omega) := rfl
  rw [e1]
  have hi2 : i < (shaN M).length := by rw [shaN_length]; omega
  have e2 : (shaN M).getD i 0 = (shaN M)[i] := by simp [List.getD_eq_getElem?_getD, hi2]
  rw [e2] at hb ⊢
  simp
  omega
 rw [e]
theorem sumR_any (s : ByteArray) (hs : s.size ≤ 1099511627776) (w : World) :
 Calls Tryz.prog 64 #[.string s] w fun e w' => e = .returned (.string (sha s)) ∧ Below w.heap.size w w' := by
 obtain ⟨D, hD⟩ : ∃ D, sha s = D := ⟨_, rfl⟩
 rw [hD]
 have HD := Lib.hid hD
 clear hD
 go_enter Tryz.func64, Tryz.ntmps64
 go_wp2_with fail
 refine (extended_any s hs _).mono ?_
 rintro e w2 ⟨vb, rfl, hob, b2⟩
 have hB2 : Below w.heap.size w w2 := ((Below.refl w.heap.size w).alloc (Nat.le_refl _) _).trans (b2.mono (by simp))
 have hz2 : w.heap.size < w2.heap.size := by have := b2.size; simp at this; omega
 have hiv : NumsAt .u32 w2 w.heap.size 0 shaIV := (new_nums .u32 w shaIV 123).below b2 (by simp)
 have hpm := shaPad_mod (natsOf s)
 have hpl := shaPad_length (natsOf s)
 have hpp : padZ (natsOf s).length < 64 := by unfold padZ; omega
 rw [natsOf_length] at hpl hpp
 have hlt8 := shaPad_lt (natsOf_lt s)
 have hsha : D = shaL (natsOf s) := by rw [← HD.out]; exact sha_eq s
 have hblk : shaN (natsOf s) = ((cutB (shaPad (natsOf s)) ((shaPad (natsOf s)).length / 64)).foldl comp shaIV).flatMap word4 := rfl
 obtain ⟨P, hP⟩ : ∃ P, shaPad (natsOf s) = P := ⟨_, rfl⟩
 rw [hP] at hob hpm hpl hlt8 hblk
 obtain ⟨N, hN⟩ : ∃ N, P.length = N := ⟨_, rfl⟩
 rw [hN] at hpm hpl hblk
 have hN0 : 64 ≤ N := by omega
 have hN1 : N ≤ 1099511627976 := by omega
 obtain ⟨gb, cb, rfl, hcb, hgb0, hgb, hnb, hcm⟩ := hob.form N hN (by omega)
 have HB2 := Lib.hid hB2; have HIV := Lib.hid hiv; have HSH := Lib.hid hsha; have HBLK := Lib.hid hblk; have HNB := Lib.hid hnb; have HN := Lib.hid hN; have HL8 := Lib.hid hlt8
 clear hB2 hiv hsha hblk hnb hN hlt8 hpl hpp hob b2 hP hgb0 HD hs hcm
 obtain ⟨gi, hgi⟩ : ∃ g, w.heap.size = g := ⟨_, rfl⟩
 rw [hgi] at HIV hz2
 have HGI := Lib.hid hgi
 go_wp2_with fail
 go_loopw [3, 5] (fun v i wr => ∃ (j gh ch : Nat), 64 * j ≤ N ∧ i = .int .i64 ((64 * j : Nat) : Int) ∧ v = .slice (some ⟨gh, 0, none⟩) 8 ch ∧ gh < wr.heap.size ∧ Hid (NumsAt .u32 wr gh 0 ((cutB P j).foldl comp shaIV)) ∧ Hid (Below w2.heap.size w2 wr)) (fun _ i _ => N - (RowKit.intOf i).toNat)
 case atStart =>
  refine ⟨0, gi, 8, by omega, rfl, ?_, hz2, HIV.out, Below.refl _ _⟩
  first | rfl | (rw [hgi])
 case round =>
  obtain ⟨j, gh, ch, hj, rfl, rfl, hgh, hnh, hbr⟩ := hrel
  by_cases hlt : 64 * j < N
  · have hnext : (cutB P (j + 1)).foldl comp shaIV = comp ((cutB P j).foldl comp shaIV) ((P.drop (64 * j)).take 64) := by rw [cutB_succ, List.foldl_append]; rfl
    have hS := fold_lt (cutB P j) shaIV shaIV_lt
    have hSl := foldl_comp_length (cutB P j) shaIV rfl
    have hBl : ((P.drop (64 * j)).take 64).length = 64 := by rw [List.length_take, List.length_drop, HN.out]; omega
    have hBt : ∀ x ∈ (P.drop (64 * j)).take 64, x < 256 := fun x hx => HL8.out x (List.mem_of_mem_drop (List.mem_of_mem_take hx))
    have hnb := (HNB.out.below hbr.out hgb).sub (64 * j) 64 (by rw [HN.out]; omega)
    rw [Nat.zero_add] at hnb
    obtain ⟨S, eS⟩ : ∃ S, (cutB P j).foldl comp shaIV = S := ⟨_, rfl⟩
    obtain ⟨B, eB⟩ : ∃ B, (P.drop (64 * j)).take 64 = B := ⟨_, rfl⟩
    rw [eS] at hnext hS hSl hnh
    rw [eB] at hnext hBl hBt hnb
    have hj2 : 64 * (j + 1) ≤ N := by omega
    have hjn : 64 * (j + 1) = 64 * j + 64 := by omega
    obtain ⟨p, hp⟩ : ∃ p, 64 * j = p := ⟨_, rfl⟩
    rw [hp] at hnb hjn hlt ⊢
    have hgbr : gb < wr.heap.size := Nat.lt_of_lt_of_le hgb hbr.out.size
    have c := block_any S B hSl hS hBl hBt gh ch gb p (cb - p) wr hnh.out hgh hnb hgbr
    have hsl := fun w => slice_64 gb N cb p (by omega) w
    have hcl := comp_length S B hSl
    have hp1 : (p : Int) < (N : Int) := by omega
    have hp2 : (p : Int) ≤ 1099511627976 := by omega
    have C := Lib.hid c; have HNX := Lib.hid hnext; have HCL := Lib.hid hcl
    clear c hnext hcl hS hSl hBl hBt hnb hnh eS eB
    go_wp2_with fail
    refine C.out.mono ?_
    rintro e w5 ⟨v5, rfl, ho5, b5⟩
    obtain ⟨g5, c5, rfl, _, _, hg5, hn5, _⟩ := ho5.form 8 HCL.out (by omega)
    have hb5 : Below w2.heap.size w2 w5 := hbr.out.trans (b5.mono hbr.out.size)
    go_wp2
    go_roundw
    case rel => exact ⟨j + 1, g5, c5, hj2, by rw [hjn]; go_num, rfl, hg5, by rw [HNX.out]; exact hn5, hb5⟩
    case measure => simp [RowKit.intOf]; omega
  · have hjN : 64 * j = N := by omega
    have hjd : N / 64 = j := by omega
    have hbk := HBLK.out
    rw [hjd] at hbk
    have hSl := foldl_comp_length (cutB P j) shaIV rfl
    have hB4 : Below w.heap.size w wr := HB2.out.trans (hbr.out.mono (by rw [hgi]; omega))
    obtain ⟨S, eS⟩ : ∃ S, (cutB P j).foldl comp shaIV = S := ⟨_, rfl⟩
    rw [eS] at hbk hSl hnh
    rw [hjN]
    obtain ⟨W4, hW4⟩ : ∃ W : World, W = wr := ⟨_, rfl⟩
    rw [← hW4] at hnh hB4 hgh ⊢
    have HB4 := Lib.hid hB4; have HSL := Lib.hid hSl; have HBK := Lib.hid hbk; have HNH := Lib.hid hnh.out
    clear hB4 hSl hbk hjN hjd hj hlt eS hW4 hbr hnh HBLK HIV HB2 HNB HL8
    go_wp2_with fail
    go_loopw [6, 7] (fun v i wr => ∃ k : Nat, k ≤ 8 ∧ i = .int .i64 k ∧ Hid (Own8 wr W4.heap.size v ((S.take k).flatMap word4)) ∧ Hid (Below W4.heap.size W4 wr)) (fun _ i _ => 8 - (RowKit.intOf i).toNat)
    case atStart => exact ⟨0, by omega, rfl, Own8.nil _ _, Below.refl _ _⟩
    case round =>
     obtain ⟨k, hk, rfl, hown, hbr⟩ := hrel
     by_cases hlt : k < 8
     · have hk1 : (k : Int) < 8 := by omega
       have hk2 : (0 : Int) ≤ (k : Int) := by omega
       have hsize := hbr.out.size
       have hcb : ∀ W, Below W4.heap.size W4 W → W.cell? ⟨gh, k, none⟩ = some (.int .u32 ((S.getD k 0 : Nat) : Int)) := fun W hW => by
        have e1 := HNH.out.below hW hgh k (by rw [HSL.out]; omega)
        rwa [Nat.zero_add] at e1
       have hnext := word4_next S k (by rw [HSL.out]; exact hlt)
       have hql : ((S.take k).flatMap word4).length ≤ 32 := by rw [word4s_length, List.length_take]; omega
       obtain ⟨x, ex⟩ : ∃ x, S.getD k 0 = x := ⟨_, rfl⟩
       rw [ex] at hcb hnext
       obtain ⟨q, hq⟩ : ∃ q, (S.take k).flatMap word4 = q := ⟨_, rfl⟩
       rw [hq] at hown hnext hql
       have z0 : IntKind.u8.wrap ((x : Int) / 16777216) = ((x / 16777216 % 256 : Nat) : Int) := by rw [IntKind.wrap_u8]; omega
       have z1 : IntKind.u8.wrap ((x : Int) / 65536) = ((x / 65536 % 256 : Nat) : Int) := by rw [IntKind.wrap_u8]; omega
       have z2 : IntKind.u8.wrap ((x : Int) / 256) = ((x / 256 % 256 : Nat) : Int) := by rw [IntKind.wrap_u8]; omega
       have z3 : IntKind.u8.wrap (x : Int) = ((x % 256 : Nat) : Int) := by rw [IntKind.wrap_u8]; omega
       have hw4 : word4 x = [x / 16777216 % 256, x / 65536 % 256, x / 256 % 256, x % 256] := rfl
       obtain ⟨b0, e0⟩ : ∃ b, x / 16777216 % 256 = b := ⟨_, rfl⟩
       obtain ⟨b1, e1⟩ : ∃ b, x / 65536 % 256 = b := ⟨_, rfl⟩
       obtain ⟨b2, e2⟩ : ∃ b, x / 256 % 256 = b := ⟨_, rfl⟩
       obtain ⟨b3, e3⟩ : ∃ b, x % 256 = b := ⟨_, rfl⟩
       rw [e0] at z0 hw4; rw [e1] at z1 hw4; rw [e2] at z2 hw4; rw [e3] at z3 hw4
       rw [hw4] at hnext
       have hql4 : q.length + 4 ≤ 17592186044416 := by omega
       have HN2 := Lib.hid hnext; have HCB := Lib.hid hcb
       clear hnext hcb ex hq hw4 e0 e1 e2 e3 hql
       go_wp2_with fail
       go_region_held3 (fun W => W.cell? ⟨gh, k, none⟩ = some (.int .u32 (x : Nat)))
        (first | exact HCB.out _ (below_same hbr.out rfl rfl rfl rfl) | exact HCB.out _ (mid_below hbr.out hsize rfl) | exact HCB.out _ hb3)
        ((refine step_push8 (w0 := W4) rfl _ _ rfl W4.heap.size _ q [b0, b1, b2, b3] rfl (mid8 hown.out rfl) (mid_below hbr.out hsize rfl) (Nat.le_trans hsize (by simp)) wr.heap.size 0 4 4 rfl rfl (mid_nums [b0, b1, b2, b3] rfl) hql4 ?_; intro v3 W3 ho3 hb3 hg3))
       all_goals (go_wp2; go_roundw; (case rel => exact ⟨k + 1, by omega, by go_num, by rw [HN2.out]; exact ho3, hb3⟩); (case measure => simp [RowKit.intOf]; omega))
     · have hk1 : ¬ (k : Int) < 8 := by omega
       have hk8 : k = 8 := by omega
       rw [hk8, List.take_of_length_le (by rw [HSL.out]; omega), ← HBK.out] at hown
       obtain ⟨g, cap, rfl, _, _, _, hn, _⟩ := hown.out.form 32 (shaN_length _) (by omega)
       have hconv := run_convert_whole (P := Tryz.prog) wr 42 5 9 Tryz.underlying42 Tryz.underlying5 Tryz.underlying9 g 0 (shaL (natsOf s)) (nums_shaL hn) cap
       have hsz : (shaL (natsOf s)).size = 32 := by
        show ((shaN (natsOf s)).map Nat.toUInt8).toArray.size = 32
        rw [List.size_toArray, List.length_map, shaN_length]
       rw [hsz, ← HSH.out] at hconv
       have hbf : Below w.heap.size w wr := HB4.out.trans (hbr.out.mono HB4.out.size)
       clear hn hsz hown
       subst hk8
       go_wp2_with fail
       go_ret
       exact ⟨rfl, by rw [← HGI.out]; exact hbf⟩
end Go.Proofs.YtnpfhcnjkekhbaaGreatDoor

namespace Go.Proofs.YtnpfhcnjkekhbaaGreatDoor
open Go Go.Proofs Go.RowKit Go.Lib
theorem tagged_app (t : UInt8) (a b : ByteArray) : (⟨#[t]⟩ ++ a) ++ b = tagged t (a ++ b) := by
 unfold tagged; rw [ByteArray.append_assoc]
theorem chainR_any (a b : ByteArray) (ha : a.size ≤ 1000000) (hb : b.size ≤ 1000000) (w : World) :
 Calls Tryz.prog 52 #[.string a, .string b] w fun e w' => e = .returned (.string (chainF a b)) ∧ Below w.heap.size w w' := by
 have c := fun W => sumR_any (tagged 2 (a ++ b)) (by rw [tagged_size, ByteArray.size_append]; omega) W
 rw [← tagged_app] at c
 have C := Lib.hid (show ∀ W, Calls Tryz.prog 64 #[.string ((⟨#[2]⟩ ++ a) ++ b)] W fun e w' => e = .returned (.string (chainF a b)) ∧ Below W.heap.size W w' from fun W => by
  have h := c W
  rw [tagged_app] at h ⊢
  exact h)
 clear c
 go_enter Tryz.func52, Tryz.ntmps52
 go_wp2_with fail
 refine (C.out _).mono ?_
 rintro e w' ⟨rfl, hb⟩
 go_wp2
 go_ret
 exact ⟨rfl, hb⟩
end Go.Proofs.YtnpfhcnjkekhbaaGreatDoor
