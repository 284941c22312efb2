/-
  UnitReadAgain: its walk.
-/
import Derived.Test.YtcglcgphgahnpaaGreatDoorK35
import Derived.Test.YtcglcgphgahnpaaGreatDoorK47
import Derived.BigRegion
import Derived.Deep.CutRange
import Derived.Deep.DeepCutAuto
import Derived.Deep.RegionHeld3
import Derived.WalkKit
import Derived.Below
import Derived.Lib.ConvBytes
import Derived.Lib.SlBytesRow
import Derived.Laws.Rows
import Derived.OwnWalk
import Derived.OwnWalkIn
import Derived.BigQuiet
import Derived.IntWalk
import Derived.RegionTactic
import Derived.Deep.RegionLaw
import Derived.Deep.RegionWith
import Derived.Deep.QuietTactic
import Derived.Shelf.Abstract
import Derived.Laws.AppendOwn
import Derived.WalkLawsBesides
import Derived.Outline
import Derived.Lib.Hide
import Derived.Laws.MakeOwn
import Derived.Stop.RegionWithIn
import Derived.RangeFuncNested
import Derived.RangeFuncBound
import Derived.RangeFuncCalls
import Derived.RangeFuncLeaves
import Derived.RangeFuncBox
import Derived.TacticsInMore
import Derived.LoopNIn
import Derived.LoopIn
import Derived.Shelf.AbstractIn
import Derived.Laws.CopyOwn
import Derived.Shelf.LaysM
import Derived.Shelf.LaysC
import Derived.Shelf.Strconv.Itoa3
import Derived.Shelf.Strconv.AtoiAll
import Derived.Shelf.Strconv.ErrVarAll
import Derived.Shelf.Strconv.AppendIntPublic10
import Derived.Lib.ItoaNum
import Derived.Lib.AtoiAll
import Derived.WalkMore
import Derived.ScopeJumps
import Derived.Laws.AppendOwnNone
import Derived.Shelf.Strconv.Clone
import Derived.Shelf.Strings.Search2
import Derived.Shelf.Strings.Repeat
import Derived.ChangeAlike
import Derived.Lib.Varint
import Derived.Lib.Strings
import Derived.RangeFuncRecord
import Derived.Maps.AppendAt
import Derived.Laws.StructEq
namespace Go.Proofs.YtcglcgphgahnpaaGreatDoor
open Go Go.Proofs Go.RowKit Go.Lib

theorem slice_mid5 (s : ByteArray) (a b : Nat) (h1 : a ≤ b) (h2 : b ≤ s.size) (w : World) : (Instr.slice 9 (.string s) (some (.int .i64 (a : Int))) (some (.int .i64 (b : Int))) none).run Tryz.prog w = .ok (.string (s.extract a b)) w := by
  simp [Instr.slice, Instr.sliceBounds, Instr.sliceBound, asIntOf, run_underlying Tryz.underlying9, h1, h2]
theorem rem6 (k n : Nat) : ∃ j : Nat, j < n + 1 ∧ ((k : Int)).tmod ((n : Int) + 1) = (j : Int) ∧ (k : Int) % ((n : Int) + 1) = (j : Int) := by
  refine ⟨k % (n + 1), Nat.mod_lt _ (by omega), ?_, ?_⟩
  · rw [Int.tmod_eq_emod_of_nonneg (by omega), show ((n : Int) + 1) = ((n + 1 : Nat) : Int) by omega]
    exact (Int.natCast_emod k (n + 1)).symm
  · rw [show ((n : Int) + 1) = ((n + 1 : Nat) : Int) by omega]
    exact (Int.natCast_emod k (n + 1)).symm
theorem cells_strs {W : World} {B : Nat} {vs : List Value} {t : TypeId} (h : B = W.heap.size) : CellsAt (W.alloc (.cells vs.toArray t)) B vs := cellsAt_new h

theorem far_row5 {W : World} {A B i : Nat} {v : Value} {y : List UInt8} (hne : A ≠ B) (h : ByteRow5 W B y) : ByteRow5 (W.setCell ⟨A, i, none⟩ v) B y := fun j hj =>
  ⟨(World.cell?_setCell_other _ _ _ _ (fun e' => hne (by injection e'))).trans (h j hj).1, by rw [World.frozen?_setCell]; exact (h j hj).2⟩
theorem row_heap5 {W W' : World} {B : Nat} {y : List UInt8} (e : W'.heap = W.heap) (h : ByteRow5 W B y) : ByteRow5 W' B y := fun j hj => by
  have := h j hj
  unfold World.cell? World.frozen? at this ⊢
  rw [e]
  exact this

set_option maxRecDepth 100000 in
set_option maxHeartbeats 16000000 in
theorem unitReadAgain_walk (s : ByteArray) (x0 x1 x2 x3 at' cc : Int) (hs : s.size ≤ maxLen) (ax0 : -9223372036854775808 ≤ x0) (cx0 : x0 ≤ 9223372036854775807) (ax1 : -9223372036854775808 ≤ x1) (cx1 : x1 ≤ 9223372036854775807) (ax2 : -9223372036854775808 ≤ x2) (cx2 : x2 ≤ 9223372036854775807) (ax3 : -9223372036854775808 ≤ x3) (cx3 : x3 ≤ 9223372036854775807) (d0 : -9223372036854775808 ≤ at') (d1 : at' ≤ 9223372036854775807) (e0 : 0 ≤ cc) (e1 : cc ≤ 255) (w : World) (hR : Set5 w) : Calls Tryz.prog 9 #[.string s, .agg #[.int .i64 x0, .int .i64 x1, .int .i64 x2, .int .i64 x3], .int .i64 at', .int .u8 cc] w fun e w' => e = .returned (.bool true) ∧ Below w.heap.size w w' := by
  obtain ⟨u, rfl⟩ := byte_of e0 e1
  obtain ⟨W0, hW0, b0', s0, hcc⟩ := lay1 w (.int .i64 x0) [.int .i64 x1, .int .i64 x2, .int .i64 x3] 28
  have mx := fun W => made_any5 x0 x1 x2 x3 ax0 cx0 ax1 cx1 ax2 cx2 ax3 cx3 W
  have oa := made_ok x0 x1 x2 x3
  generalize madeQt x0 x1 x2 x3 = a at *
  have sa := Qt.short_ok oa
  have pr := fun W => printR_q5 a sa W
  have er := fun W => encodeR_q5 a sa W
  rw [oa] at er
  have zt := text5_size a; have zc := code5_size a; have pt := text5_pos oa; have pc := code5_pos oa
  generalize a.text5 = TA at *
  generalize a.code5 = CA at *
  have hl := list_ne5 pt
  obtain ⟨kk, hk3, hk4⟩ : ∃ kk : Nat, (at' < 0 → -(at' + 1) = ((kk : Nat) : Int)) ∧ (¬ at' < 0 → at' = ((kk : Nat) : Int)) := by
    by_cases h : at' < 0
    · exact ⟨(-(at' + 1)).toNat, fun _ => by omega, fun k => absurd h k⟩
    · exact ⟨at'.toNat, fun k => absurd k h, fun _ => by omega⟩
  obtain ⟨j1, hj1, hr1⟩ := rem5 kk TA.size pt
  obtain ⟨j2, hj2, hr2⟩ := rem5 kk CA.size pc
  have hcv1 := fun w' => Lib.run_convert_string_bytes (P := Tryz.prog) w' 9 44 5 TA Tryz.underlying9 Tryz.underlying44 Tryz.underlying5
  have hcv2 := fun w' => Lib.run_convert_string_bytes (P := Tryz.prog) w' 9 44 5 CA Tryz.underlying9 Tryz.underlying44 Tryz.underlying5
  unfold maxLen at hs
  have hi : 0 ≤ min (s.size : Int) 200 ∧ min (s.size : Int) 200 ≤ s.size ∧ (s.extract 0 (min (s.size : Int) 200).toNat).size ≤ 1000 := by rw [ByteArray.size_extract]; omega
  have HLEN := Lib.hid (show eU true = 0 ∧ ¬ TA.size = 0 ∧ ¬ ((TA.size : Int) = 0) ∧ ((TA.size : Int) == 0) = false ∧ TA.size ≤ 232 from ⟨eU_true, by omega, by omega, beq_eq_false_iff_ne.2 (by omega), zt⟩)
  have HKK := Lib.hid (show -9223372036854775808 ≤ at' ∧ at' ≤ 9223372036854775807 ∧ (at' < 0 → -(at' + 1) = ((kk : Nat) : Int)) ∧ (¬ at' < 0 → at' = ((kk : Nat) : Int)) from ⟨d0, d1, hk3, hk4⟩)
  have HR1 := Lib.hid (show ((kk : Int)).tmod (TA.size : Int) = (j1 : Int) ∧ ¬ TA.size = 0 from ⟨hr1, by omega⟩)
  have HR2 := Lib.hid (show ((kk : Int)).tmod (CA.size : Int) = (j2 : Int) ∧ ¬ CA.size = 0 from ⟨hr2, by omega⟩)
  have HJ1 := Lib.hid hj1; have HJ2 := Lib.hid hj2; have HSZ := Lib.hid (show TA.size ≤ 1000 ∧ CA.size ≤ 1000 by omega)
  have HCV1 := Lib.hid hcv1; have HCV2 := Lib.hid hcv2; have HI := Lib.hid hi
  have HW := Lib.hid hW0; have B0 := Lib.hid b0'; have HC := Lib.hid hcc; have HR := Lib.hid (hR.below b0'); have LOW := Lib.hid (show w.heap.size ≤ w.heap.size from Nat.le_refl _)
  have SANE := Lib.hid (fun W h => sane_any5 W h); have Mx := Lib.hid mx; have PR := Lib.hid pr; have ER := Lib.hid er
  clear hW0 b0' s0 hcc hR mx oa sa pr er zt zc pt pc hl hk3 hk4 hj1 hr1 hj2 hr2 hcv1 hcv2 hs hi d0 d1 e0 e1 ax0 cx0 ax1 cx1 ax2 cx2 ax3 cx3
  go_enter Tryz.func9, Tryz.ntmps9
  have P0 := Lib.hid (Below.refl W0.heap.size W0)
  have E0 := Lib.hid (fun W (b : Below W0.heap.size W0 W) => And.intro (HC.out W b) trivial)
  go_wp2_with (rw [HW.out])
  refine (SANE.out _ (HR.out.below P0.out)).mono ?_
  rintro e z1 ⟨rfl, b1⟩
  have B1 := Lib.hid b1
  have P1 := Lib.hid (below_up P0.out b1)
  have E1 := Lib.hid (fun W (b : Below z1.heap.size z1 W) => E0.out W (below_up B1.out b))
  clear b1
  obtain ⟨⟨m0, m1, m2, m3⟩, ⟨mf0, mf1, mf2, mf3⟩⟩ := four_facts (E1.out z1 (Below.refl _ _)).1
  go_wp2_with fail
  refine (Mx.out _).mono ?_
  rintro e z2 ⟨rfl, b2⟩
  have B2 := Lib.hid b2
  have P2 := Lib.hid (below_up P1.out b2)
  have E2 := Lib.hid (fun W (b : Below z2.heap.size z2 W) => E1.out W (below_up B2.out b))
  clear b2
  go_wp2_with fail
  refine (PR.out _).mono ?_
  rintro e z3 ⟨rfl, b3⟩
  have B3 := Lib.hid b3
  have P3 := Lib.hid (below_up P2.out b3)
  have E3 := Lib.hid (fun W (b : Below z3.heap.size z3 W) => E2.out W (below_up B3.out b))
  clear b3
  clear m0 m1 m2 m3 mf0 mf1 mf2 mf3
  obtain ⟨⟨m0, m1, m2, m3⟩, ⟨mf0, mf1, mf2, mf3⟩⟩ := four_facts (E3.out z3 (Below.refl _ _)).1
  go_wp2_with fail
  refine (Mx.out _).mono ?_
  rintro e z4 ⟨rfl, b4⟩
  have B4 := Lib.hid b4
  have P4 := Lib.hid (below_up P3.out b4)
  have E4 := Lib.hid (fun W (b : Below z4.heap.size z4 W) => E3.out W (below_up B4.out b))
  clear b4
  go_wp2_with fail
  refine (ER.out _).mono ?_
  rintro e z5 ⟨rfl, b5⟩
  have B5 := Lib.hid b5
  have P5 := Lib.hid (below_up P4.out b5)
  have E5 := Lib.hid (fun W (b : Below z5.heap.size z5 W) => E4.out W (below_up B5.out b))
  clear b5
  clear m0 m1 m2 m3 mf0 mf1 mf2 mf3
  obtain ⟨l1, l2, l3, l5, l4⟩ := HLEN.out
  go_upto_if 45 with fail
  clear l1 l2 l3 l4 l5
  go_cut [13] from 44 to 48 (fun sk wx => sk = .int .i64 ((kk : Nat) : Int) ∧ wx = z5)
  case first =>
    have k1 := HKK.out.1; have k2 := HKK.out.2.1
    by_cases h : at' < 0
    · go_wp2_with fail
      go_meet
      exact ⟨congrArg (Value.int .i64) (HKK.out.2.2.1 h), rfl⟩
    · go_wp2_with fail
      go_meet
      exact ⟨congrArg (Value.int .i64) (HKK.out.2.2.2 h), rfl⟩
  case rest =>
    obtain ⟨rfl, rfl⟩ := hcut
    generalize wc = z5 at *
    have hcv1 := HCV1.out
    go_upto_region 10 with fail
    obtain ⟨W2, hW2⟩ : ∃ W2, bytesWorld z5 5 TA = W2 := ⟨_, rfl⟩
    obtain ⟨B1, hB1⟩ : ∃ B, z5.heap.size = B := ⟨_, rfl⟩
    obtain ⟨C1, hC1⟩ : ∃ C, grownCap z5 TA.size 0 5 = C := ⟨_, rfl⟩
    rw [hW2, hB1, hC1]
    have BB1 := Lib.hid (show Below z5.heap.size z5 W2 by rw [← hW2]; exact bytes_below5 _ _ _)
    have RW1 := Lib.hid (show ByteRow5 W2 B1 TA.data.toList by rw [← hW2, ← hB1]; exact ByteRow5.made _ _ _)
    have LB1 := Lib.hid (show W0.heap.size ≤ B1 by rw [← hB1]; exact P5.out.size)
    have GC1 := Lib.hid (show TA.size ≤ C1 by rw [← hC1]; exact grownCap_ge _ _ _ _)
    have LZ1 := Lib.hid (show B1 < W2.heap.size by rw [← hW2, ← hB1, bytesWorld_size]; omega)
    clear hW2 hB1 hC1 hcv1
    obtain ⟨c1, c2⟩ := RW1.out j1 (by rw [list_size5]; exact HJ1.out)
    obtain ⟨r1, r2⟩ := HR1.out
    have hj1 := HJ1.out
    have hg1 := GC1.out
    go_upto_region 11 with fail
    obtain ⟨W3, hW3⟩ : ∃ W3, W2.setCell ⟨B1, j1, none⟩ (.int .u8 ((u.toNat : Nat) : Int)) = W3 := ⟨_, rfl⟩
    rw [hW3]
    have P3 := Lib.hid (show Below W0.heap.size W0 W3 by rw [← hW3]; exact Below.setCell (p := ⟨B1, j1, none⟩) (below_up P5.out BB1.out) LB1.out _)
    have RW2 := Lib.hid (show ByteRow5 W3 B1 (TA.data.toList.set j1 u) by rw [← hW3]; exact RW1.out.set j1 u)
    have LZ2 := Lib.hid (show B1 < W3.heap.size by rw [← hW3]; simpa using LZ1.out)
    clear hW3 c1 c2 r1 r2 hj1 hg1 RW1
    have hcv2 := HCV2.out
    go_upto_region 12 with fail
    obtain ⟨W4, hW4⟩ : ∃ W2, bytesWorld W3 5 CA = W2 := ⟨_, rfl⟩
    obtain ⟨B2, hB2⟩ : ∃ B, W3.heap.size = B := ⟨_, rfl⟩
    obtain ⟨C2, hC2⟩ : ∃ C, grownCap W3 CA.size 0 5 = C := ⟨_, rfl⟩
    rw [hW4, hB2, hC2]
    have BB2 := Lib.hid (show Below W3.heap.size W3 W4 by rw [← hW4]; exact bytes_below5 _ _ _)
    have RX1 := Lib.hid (show ByteRow5 W4 B2 CA.data.toList by rw [← hW4, ← hB2]; exact ByteRow5.made _ _ _)
    have LB2 := Lib.hid (show W0.heap.size ≤ B2 by rw [← hB2]; exact P3.out.size)
    have GC2 := Lib.hid (show CA.size ≤ C2 by rw [← hC2]; exact grownCap_ge _ _ _ _)
    have NE2 := Lib.hid (show B2 ≠ B1 by rw [← hB2]; exact Nat.ne_of_gt LZ2.out)
    clear hW4 hB2 hC2 hcv2
    have RW3 := Lib.hid (RW2.out.below LZ2.out BB2.out)
    have LZ3 := Lib.hid (Nat.lt_of_lt_of_le LZ2.out BB2.out.size)
    obtain ⟨c1, c2⟩ := RX1.out j2 (by rw [list_size5]; exact HJ2.out)
    obtain ⟨r1, r2⟩ := HR2.out
    have hj2 := HJ2.out
    have hg2 := GC2.out
    go_upto_region 13 with fail
    obtain ⟨W5, hW5⟩ : ∃ W5, W4.setCell ⟨B2, j2, none⟩ (.int .u8 ((u.toNat : Nat) : Int)) = W5 := ⟨_, rfl⟩
    rw [hW5]
    have P5 := Lib.hid (show Below W0.heap.size W0 W5 by rw [← hW5]; exact Below.setCell (p := ⟨B2, j2, none⟩) (below_up P3.out BB2.out) LB2.out _)
    have RX2 := Lib.hid (show ByteRow5 W5 B2 (CA.data.toList.set j2 u) by rw [← hW5]; exact RX1.out.set j2 u)
    have RW4 := Lib.hid (show ByteRow5 W5 B1 (TA.data.toList.set j1 u) by rw [← hW5]; exact far_row5 NE2.out RW3.out)
    clear hW5 c1 c2 r1 r2 hj2 hg2 RX1 RW3
    obtain ⟨Y1, hy1⟩ : ∃ t : ByteArray, (⟨(TA.data.toList.set j1 u).toArray⟩ : ByteArray) = t := ⟨_, rfl⟩
    obtain ⟨Y2, hy2⟩ : ∃ t : ByteArray, (⟨(CA.data.toList.set j2 u).toArray⟩ : ByteArray) = t := ⟨_, rfl⟩
    have SY := Lib.hid (show Y1.size ≤ 1000 ∧ Y2.size ≤ 1000 by
      rw [← hy1, ← hy2, bytesOf_size, bytesOf_size, List.length_set, List.length_set, list_size5, list_size5]; exact HSZ.out)
    have V1 := Lib.hid (fun (W : World) (h : W.heap = W5.heap) => show (convert 44 9 (.slice (some ⟨B1, 0, none⟩) TA.size C1)).run Tryz.prog W = .ok (.string Y1) W by
      rw [← hy1]; exact conv5 W B1 C1 _ TA.size (by rw [List.length_set, list_size5]) (row_heap5 h RW4.out))
    have V2 := Lib.hid (fun (W : World) (h : W.heap = W5.heap) => show (convert 44 9 (.slice (some ⟨B2, 0, none⟩) CA.size C2)).run Tryz.prog W = .ok (.string Y2) W by
      rw [← hy2]; exact conv5 W B2 C2 _ CA.size (by rw [List.length_set, list_size5]) (row_heap5 h RX2.out))
    clear hy1 hy2
    go_cut [76, 77, 78] from 67 to 78 (fun sa sb sc wx => sb = .int .i64 3 ∧ sc = .int .i64 0 ∧ ∃ (G : Nat) (T0 : ByteArray), sa = .slice (some ⟨G, 0, none⟩) 3 3 ∧ Hid (T0.size ≤ 1000) ∧ Hid (CellsAt wx G [.string T0, .string Y1, .string Y2]) ∧ Hid (Below W0.heap.size W0 wx))
    case first =>
      have a1 := V1.out W5 rfl; have a2 := V1.out W5.drew rfl; have a3 := fun q => V1.out (W5.drewN q) (by simp)
      have b1 := V2.out W5 rfl; have b2 := V2.out W5.drew rfl; have b3 := fun q => V2.out (W5.drewN q) (by simp)
      obtain ⟨i1, i2, i3⟩ := HI.out
      go_region
      all_goals (
        go_wp2_with fail
        go_meet
        exact ⟨rfl, rfl, _, _, rfl, Lib.hid i3, Lib.hid (cellsAt_new (by simp)).drew, Lib.hid (by first | exact (P5.out.alloc P5.out.size _).drew | exact P5.out.alloc P5.out.size _ | exact (P5.out.drew.alloc P5.out.size _))⟩)
    case rest =>
      obtain ⟨rfl, rfl, G, T0, rfl, HT0, HG, PB⟩ := hcut
      generalize wc = zb at *
      have HZT := Lib.hid (show ∀ k : Nat, k < 3 → ∃ T : ByteArray, T.size ≤ 1000 ∧ ∀ W, Below zb.heap.size zb W → W.cell? ⟨G, k, none⟩ = some (.string T) from fun k hk => by
        have e : k = 0 ∨ k = 1 ∨ k = 2 := by omega
        rcases e with rfl | rfl | rfl
        · exact ⟨T0, HT0.out, fun W b => (CellsAt.below HG.out b 0 (by simp)).1⟩
        · exact ⟨Y1, SY.out.1, fun W b => (CellsAt.below HG.out b 1 (by simp)).1⟩
        · exact ⟨Y2, SY.out.2, fun W b => (CellsAt.below HG.out b 2 (by simp)).1⟩)
      clear HT0 HG SY V1 V2 RX2 RW4
      go_wp2_with fail
      go_loopw [78] (fun i wr => ∃ k : Nat, k ≤ 3 ∧ i = .int .i64 k ∧ Hid (Below zb.heap.size zb wr)) (fun i _ => 3 - (RowKit.intOf i).toNat)
      case atStart => exact ⟨0, by omega, rfl, Lib.hid (Below.refl _ _)⟩
      case round =>
        obtain ⟨k, hk, rfl, HBW⟩ := hrel
        by_cases hk3 : k < 3
        · skip
          generalize wr = zr at *
          obtain ⟨T, hts, htc⟩ := HZT.out k hk3
          have P100 := HBW
          have HRB := Lib.hid (HR.out.below PB.out)
          have E100 := Lib.hid (fun (W : World) (_ : Below zr.heap.size zr W) => trivial)
          have hki : (k : Int) < 3 := by omega
          have hik := fun W => at_strs G 3 k hk3 W
          have hct := htc zr HBW.out
          have HK3 := Lib.hid hk3; have HKI := Lib.hid hki; have HTS := Lib.hid hts
          clear htc hk
          have cp := fun W h => parse_u T (Nat.le_trans HTS.out (by decide)) W h
          have hpy := fun h => par_read (s := T) h
          have hpn := fun h => par_no (s := T) h
          have hsh := parQt_short T
          obtain ⟨j, hj, hrem⟩ := rem6 kk T.size
          have hd := dec_read T j (by omega)
          have cd := fun W h => decode_u T (Nat.le_trans HTS.out (by decide)) ((j : Nat) : Int) W h
          have hsd := decQt_short T ((j : Nat) : Int)
          generalize parQt T = r at *
          generalize parUB T = X at *
          generalize decQt T ((j : Nat) : Int) = d at *
          generalize decP T ((j : Nat) : Int) = dp at *
          generalize decE T ((j : Nat) : Int) = de at *
          have cva := fun W h => valid_q5 r hsh W h
          have cpr := fun W h => print_q5 r hsh W h
          have cen := fun W h => encode_q5 d hsd W h
          have CP := Lib.hid cp; have CD := Lib.hid cd; have HPY := Lib.hid hpy; have HPN := Lib.hid hpn; have CVA := Lib.hid cva; have CPR := Lib.hid cpr; have CEN := Lib.hid cen; have HD := Lib.hid hd
          have HJ := Lib.hid hj; have HREM := Lib.hid hrem
          clear cp cd hpy hpn cva cpr cen hd hj hrem hsh hsd hk3 hts
          go_wp2_with fail
          refine (CP.out _ (HRB.out.below P100.out)).mono ?_
          rintro e z101 ⟨rfl, b101⟩
          have B101 := Lib.hid b101
          have P101 := Lib.hid (below_up P100.out b101)
          have E101 := Lib.hid (fun W (b : Below z101.heap.size z101 W) => E100.out W (below_up B101.out b))
          clear b101
          obtain ⟨z102, hz102, b102, sz102, f102⟩ := lay1 z101 (.string r.n) [.string r.d, .int .i64 r.t, .int .i64 r.b, .int .i64 r.m, .int .i64 r.c] 27
          have V102 := Lib.hid hz102
          clear hz102 sz102
          have B102 := Lib.hid b102
          have P102 := Lib.hid (below_up P101.out b102)
          have E102 := Lib.hid (fun W (b : Below z102.heap.size z102 W) => And.intro (f102 W b) (E101.out W (below_up B102.out b)))
          clear b102 f102
          clear hik hct hki
          go_upto_region 17 with (rw [V102.out])
          go_cut [112] from 87 to 112 (fun sv wx => sv = .bool false ∧ Hid (Below z102.heap.size z102 wx))
          case first =>
            cases X with
            | true =>
              have oy := eU_true; have on := eU_false
              obtain ⟨ho, ht⟩ := HPY.out rfl
              have cv := CVA.out; have cq := CPR.out
              rw [ho] at cv
              rw [ht] at cq
              have CV := Lib.hid cv; have CQ := Lib.hid cq
              clear cv cq ho ht
              obtain ⟨⟨q0, q1, q2, q3, q4, q5⟩, ⟨qf0, qf1, qf2, qf3, qf4, qf5⟩⟩ := six_facts (E102.out z102 (Below.refl _ _)).1
              go_wp2_with fail
              refine (CV.out _ ((HRB.out.below P102.out)).1).mono ?_
              rintro e z103 ⟨rfl, b103⟩
              have B103 := Lib.hid b103
              have P103 := Lib.hid (below_up P102.out b103)
              have E103 := Lib.hid (fun W (b : Below z103.heap.size z103 W) => E102.out W (below_up B103.out b))
              clear b103
              clear q0 q1 q2 q3 q4 q5 qf0 qf1 qf2 qf3 qf4 qf5
              obtain ⟨⟨q0, q1, q2, q3, q4, q5⟩, ⟨qf0, qf1, qf2, qf3, qf4, qf5⟩⟩ := six_facts (E103.out z103 (Below.refl _ _)).1
              go_wp2_with fail
              refine (CQ.out _ (HRB.out.below P103.out)).mono ?_
              rintro e z104 ⟨rfl, b104⟩
              have B104 := Lib.hid b104
              have P104 := Lib.hid (below_up P103.out b104)
              have E104 := Lib.hid (fun W (b : Below z104.heap.size z104 W) => E103.out W (below_up B104.out b))
              clear b104
              go_wp2_with fail
              go_meet
              exact ⟨rfl, Lib.hid (below_up B103.out B104.out)⟩
            | false =>
              have oy := eU_true; have on := eU_false
              obtain ⟨⟨q0, q1, q2, q3, q4, q5⟩, ⟨qf0, qf1, qf2, qf3, qf4, qf5⟩⟩ := six_facts (E102.out z102 (Below.refl _ _)).1
              have e := HPN.out rfl
              subst e
              simp only [zeroQt] at q0 q1 q2 q3 q4 q5
              go_wp2_with fail
              go_meet
              exact ⟨rfl, Lib.hid (Below.refl _ _)⟩
          case rest =>
            obtain ⟨rfl, hbx⟩ := hcut
            generalize wc = z200 at *
            have P200 := Lib.hid (below_up P102.out hbx.out)
            have E200 := Lib.hid (fun (W : World) (_ : Below z200.heap.size z200 W) => trivial)
            clear hbx
            have hrem := HREM.out.1; have hrem2 := HREM.out.2; have hj := HJ.out; have hts := HTS.out
            have hn0 : ¬ T.size + 1 = 0 := by omega
            have hn1 : ¬ ((T.size : Int) + 1 = 0) := by omega
            go_wp2_with fail
            refine (CD.out _ ((HRB.out.below P200.out)).1).mono ?_
            rintro e z201 ⟨rfl, b201⟩
            have B201 := Lib.hid b201
            have P201 := Lib.hid (below_up P200.out b201)
            have E201 := Lib.hid (fun W (b : Below z201.heap.size z201 W) => E200.out W (below_up B201.out b))
            clear b201
            clear hrem hrem2 hn0 hn1
            obtain ⟨z202, hz202, b202, sz202, f202⟩ := lay1 z201 (.string d.n) [.string d.d, .int .i64 d.t, .int .i64 d.b, .int .i64 d.m, .int .i64 d.c] 27
            have V202 := Lib.hid hz202
            clear hz202 sz202
            have B202 := Lib.hid b202
            have P202 := Lib.hid (below_up P201.out b202)
            have E202 := Lib.hid (fun W (b : Below z202.heap.size z202 W) => And.intro (f202 W b) (E201.out W (below_up B202.out b)))
            clear b202 f202
            go_upto_region 21 with (rw [V202.out])
            rcases HD.out with h | h
            · skip
              obtain ⟨e1, e2, e3⟩ := h
              subst e1 e2 e3
              obtain ⟨⟨q0, q1, q2, q3, q4, q5⟩, ⟨qf0, qf1, qf2, qf3, qf4, qf5⟩⟩ := six_facts (E202.out z202 (Below.refl _ _)).1
              simp only [zeroQt] at q0 q1 q2 q3 q4 q5
              have hki := HKI.out; have hk3 := HK3.out
              go_wp2_with fail
              go_roundw
              case rel => exact ⟨k + 1, by omega, by go_num, P202⟩
              case measure => simp [RowKit.intOf]; omega
            · skip
              obtain ⟨e1, q, e2, g1, g2, g3, g4⟩ := h
              subst e1 e2
              have HSL := Lib.hid (fun W => slice_mid5 T j q (Nat.le_of_lt g1) g2 W)
              have G4 := Lib.hid g4
              have cen := CEN.out
              rw [g3, ← g4] at cen
              have CE2 := Lib.hid cen
              clear cen g3 g4
              obtain ⟨⟨q0, q1, q2, q3, q4, q5⟩, ⟨qf0, qf1, qf2, qf3, qf4, qf5⟩⟩ := six_facts (E202.out z202 (Below.refl _ _)).1
              go_wp2_with fail
              refine (CE2.out _ ((HRB.out.below P202.out)).1).mono ?_
              rintro e z203 ⟨rfl, b203⟩
              have B203 := Lib.hid b203
              have P203 := Lib.hid (below_up P202.out b203)
              have E203 := Lib.hid (fun W (b : Below z203.heap.size z203 W) => E202.out W (below_up B203.out b))
              clear b203
              clear q0 q1 q2 q3 q4 q5 qf0 qf1 qf2 qf3 qf4 qf5
              have oy := eU_true
              have hsl := HSL.out
              have g5 : (j : Int) < (q : Int) := by omega
              have g6 : (q : Int) ≤ (T.size : Int) := by omega
              have hki := HKI.out; have hk3 := HK3.out
              go_wp2_with fail
              go_roundw
              case rel => exact ⟨k + 1, by omega, by go_num, P203⟩
              case measure => simp [RowKit.intOf]; omega
        · have hki : ¬ (k : Int) < 3 := by omega
          have PE := Lib.hid (below_up B0.out (below_up PB.out HBW.out))
          go_wp2
          go_ret
          exact ⟨rfl, PE.out⟩
end Go.Proofs.YtcglcgphgahnpaaGreatDoor
