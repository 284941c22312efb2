/-
  Layer 8, the program: fieldTests.
-/
import Derived.Test.YtifdcfjllonmgaaDoorNe0
namespace Go.Proofs.YtifdcfjllonmgaaDoor
open Go Go.Proofs Go.RowKit Go.Lib Go.Maps

set_option maxRecDepth 100000 in
set_option maxHeartbeats 8000000 in
theorem fieldTests_u (w : World) (hR : Rdy w) : Calls Tryd.prog 47 #[] w (FtPost w) := by
  have hmm := @run_makeMap Tryd.prog
  have HR := Lib.hid hR
  have HT := Lib.hid (fun W (h : HasLk W) i (hi : i < 18) => h i hi)
  have HIX := Lib.hid (fun k hk W => lk_ix k hk W)
  clear hR
  go_enter Tryd.func47, Tryd.ntmps47
  go_wp2_with (first | (refine wpList_insert_own8 _ rfl _ _ _ 86 rfl 3 44 keyI Tryd.underlying86 w.heap.size 0 (.map []) rfl (World.ownsMap_made _ _ _ _) (by unfold maxLen; omega) _ _ (.int .i64 1) rfl rfl (keyOf_int_mk Tryd.underlying3 (by decide)) ?_; intro w1 hown1 hgrow1; have HB1 := Lib.hid (show Below w.heap.size w w1 from ((Below.refl _ w).alloc (Nat.le_refl _) _).grown hgrow1 (by simp) (fun k e => by cases e; exact Nat.le_refl _)); have HR1 := Lib.hid (HR.out.below HB1.out)) | (refine wpList_val8 _ rfl (lk_load _ _ rfl _ HR1.out.tab) ?_))
  go_loopw [7] (fun i wr => ∃ k : Nat, k ≤ 6 ∧ i = .int .i64 k ∧ Hid (FtAt k wr w.heap.size) ∧ Hid (Below w.heap.size w wr)) (fun i _ => 6 - (RowKit.intOf i).toNat)
  case atStart => exact ⟨0, Nat.zero_le _, rfl, Lib.hid ⟨fun _ => .nilFunc, hown1, fun j hj => absurd hj (Nat.not_lt_zero _)⟩, HB1⟩
  case round =>
    clear hown1 hgrow1 hmm
    obtain ⟨k, hk, rfl, HF, HB⟩ := hrel
    by_cases hlt : k < 6
    · have hki : (k : Int) < 6 := by omega
      have hik := fun W => HIX.out k hlt W
      have hwf := Lib.hid (lk_wf k hlt)
      have HLT := Lib.hid hlt
      obtain ⟨w2, V2, Z2, K2, B2⟩ := lay8 wr [.int .i64 0, .int .i64 0, .int .i64 0] 122
      obtain ⟨vs, hm, hcl⟩ := HF.out
      have HB' := HB.out
      have hsz := HB'.size
      have hmlt := hm.lt
      obtain ⟨n1, hn1⟩ : ∃ n, lkT (3 * k) = n := ⟨_, rfl⟩
      obtain ⟨n2, hn2⟩ : ∃ n, lkT (3 * k + 1) = n := ⟨_, rfl⟩
      obtain ⟨n3, hn3⟩ : ∃ n, lkT (3 * k + 2) = n := ⟨_, rfl⟩
      rw [hn1, hn2, hn3] at hik
      rw [hn1] at hwf
      obtain ⟨w3, V3, K3, B3⟩ : ∃ w3, ((w2.setCell ⟨wr.heap.size, 0, none⟩ (.int .i64 n1)).setCell ⟨wr.heap.size, 1, none⟩ (.int .i64 n2)).setCell ⟨wr.heap.size, 2, none⟩ (.int .i64 n3) = w3 ∧ CellsAt w3 wr.heap.size [.int .i64 n1, .int .i64 n2, .int .i64 n3] ∧ Below wr.heap.size wr w3 :=
        ⟨_, rfl, ((K2.put 0 _).put 1 _).put 2 _, ((B2.setCell (Nat.le_refl _) _).setCell (Nat.le_refl _) _).setCell (Nat.le_refl _) _⟩
      obtain ⟨g0, g0'⟩ := K2 0 (by simp); obtain ⟨g1, g1'⟩ := K2 1 (by simp); obtain ⟨g2, g2'⟩ := K2 2 (by simp)
      simp only [List.getElem_cons_zero, List.getElem_cons_succ] at g0 g1 g2
      have HM3 := Lib.hid (ownsMap_below hm B3)
      have HCL3 := Lib.hid (fun j hj => (hcl j hj).below B3)
      have HB3 := Lib.hid (HB'.trans (B3.mono hsz))
      have HYY := Lib.hid (show ∀ W, Below w3.heap.size w3 W → W.cell? ⟨wr.heap.size, 0, none⟩ = some (.int .i64 n1) ∧ W.cell? ⟨wr.heap.size, 1, none⟩ = some (.int .i64 n2) ∧ W.cell? ⟨wr.heap.size, 2, none⟩ = some (.int .i64 n3) from fun W b => ⟨(K3.below b 0 (by simp)).1, (K3.below b 1 (by simp)).1, (K3.below b 2 (by simp)).1⟩)
      clear hm hcl K2 K3 B2 B3 HB' HF HB
      go_upto_region 5 with fail
      clear V2 V3 g0 g0' g1 g1' g2 g2' 
      refine wp_region_noPanic ?_
      refine wp_region_Kx (C := NewC w3) [8] 8 #[false, false, false, false, false, false, false, false, false] (by kernel_rfl) (by kernel_rfl) (by kernel_rfl) (newC0 _) ?_
      intro wx hwx
      refine wpAnyK_ex (i := 0) rfl (by kernel_rfl) (listed' := #[true, false, false, false, false, false, false, false, false]) rfl (fun _ _ _ _ _ h => h) hwx ?_
      apply Exists.intro
      refine ⟨⟨by rfl, fun wy hw => ?_⟩, ?_⟩
      · (have bw := hw.below; obtain ⟨f0, f1, f2⟩ := HYY.out _ bw; go_simp; try (first | (with_reducible rfl) | (with_reducible exact ⟨rfl, rfl⟩)))
      try simp only [Act.put]
      refine wpAnyK_ex (i := 1) rfl (by kernel_rfl) (listed' := #[true, true, false, false, false, false, false, false, false]) rfl (fun _ _ _ _ _ h => h) hwx ?_
      apply Exists.intro
      refine ⟨⟨by rfl, fun wy hw => ?_⟩, ?_⟩
      · (have bw := hw.below; obtain ⟨f0, f1, f2⟩ := HYY.out _ bw; go_simp; try (first | (with_reducible rfl) | (with_reducible exact ⟨rfl, rfl⟩)))
      try simp only [Act.put]
      refine wpAnyK_ex (i := 2) rfl (by kernel_rfl) (listed' := #[true, true, true, false, false, false, false, false, false]) rfl (fun _ _ _ _ _ h => h) hwx ?_
      apply Exists.intro
      refine ⟨⟨by rfl, fun wy hw => ?_⟩, ?_⟩
      · (have bw := hw.below; obtain ⟨f0, f1, f2⟩ := HYY.out _ bw; go_simp; try (first | (with_reducible rfl) | (with_reducible exact ⟨rfl, rfl⟩)))
      try simp only [Act.put]
      refine wpAnyK_ex (i := 3) rfl (by kernel_rfl) (listed' := #[true, true, true, true, false, false, false, false, false]) rfl (fun _ _ _ _ _ h => h) hwx ?_
      apply Exists.intro
      refine ⟨⟨by rfl, fun wy hw => ?_⟩, ?_⟩
      · (have bw := hw.below; obtain ⟨f0, f1, f2⟩ := HYY.out _ bw; go_simp; try (first | (with_reducible rfl) | (with_reducible exact ⟨rfl, rfl⟩)))
      try simp only [Act.put]
      refine wpAnyK_ex (i := 4) rfl (by kernel_rfl) (listed' := #[true, true, true, true, true, false, false, false, false]) rfl (fun _ _ _ _ _ h => h) hwx ?_
      apply Exists.intro
      refine ⟨⟨by rfl, fun wy hw => ?_⟩, ?_⟩
      · (have bw := hw.below; obtain ⟨f0, f1, f2⟩ := HYY.out _ bw; go_simp; try (first | (with_reducible rfl) | (with_reducible exact ⟨rfl, rfl⟩)))
      try simp only [Act.put]
      refine wpAnyK_ex (i := 5) rfl (by kernel_rfl) (listed' := #[true, true, true, true, true, true, false, false, false]) rfl (fun _ _ _ _ _ h => h) hwx ?_
      apply Exists.intro
      refine ⟨⟨by rfl, fun wy hw => ?_⟩, ?_⟩
      · (have bw := hw.below; obtain ⟨f0, f1, f2⟩ := HYY.out _ bw; go_simp; try (first | (with_reducible rfl) | (with_reducible exact ⟨rfl, rfl⟩)))
      try simp only [Act.put]
      refine wpAnyK_ex (i := 6) rfl (by kernel_rfl) (listed' := #[true, true, true, true, true, true, true, false, false]) rfl (fun _ _ _ _ _ h => h) hwx ?_
      apply Exists.intro
      refine ⟨⟨by rfl, fun wy hw => ?_⟩, ?_⟩
      · (have bw := hw.below; obtain ⟨f0, f1, f2⟩ := HYY.out _ bw; go_simp; try (first | (with_reducible rfl) | (with_reducible exact ⟨rfl, rfl⟩)))
      try simp only [Act.put]
      have HX := Lib.hid hwx.below
      refine wpAnyK_fork1 7 (by kernel_rfl) ?_
      refine wpOpK_step rfl (by kernel_rfl) (listed' := #[true, true, true, true, true, true, true, true, false]) rfl (by rfl) (fun K hK => ?_)
      go_simp
      refine (linked_u _ _ _).mono ?_
      rintro e w9 ⟨rfl, hw9⟩
      have H9 := Lib.hid (show Below w3.heap.size w3 w9 from by rw [← hw9]; exact (HX.out.alloc HX.out.size _).alloc (Nat.le_trans HX.out.size (by simp)) _)
      have HC9 := Lib.hid (show ClosAt w9 (.func (.func 81) #[] #[.pointer (some ⟨wx.heap.size, 0, none⟩), .pointer (some ⟨wx.heap.size + 1, 0, none⟩)]) n2 n3 from by
        obtain ⟨u1, U1, X1, Y1, D1⟩ := lay8 wx [.int .i64 n2] 3
        obtain ⟨u2, U2, X2, Y2, D2⟩ := lay8 u1 [.int .i64 n3] 3
        have e : w9 = u2 := by rw [← hw9, ← U2, ← U1]
        rw [e]
        rw [X1] at Y2 D2
        exact ⟨_, _, rfl, ((Y1.up D2 (by omega)) 0 (by simp)).1, (Y2 0 (by simp)).1⟩)
      refine hK _ _ H9.out ?_
      clear hK K hw9
      try simp only [Act.put]
      refine wpAnyK_end (by kernel_rfl) ?_
      try simp only [pickOps, List.filterMap_cons, List.filterMap_nil, List.getElem?_toArray, List.getElem?_cons_succ, List.getElem?_cons_zero]
      generalize (Value.func (.func 81) #[] #[.pointer (some ⟨wx.heap.size, 0, none⟩), .pointer (some ⟨wx.heap.size + 1, 0, none⟩)]) = cv at *
      have hm9 := ownsMap_below HM3.out H9.out
      refine wpList_mapUpdate_own _ rfl _ _ _ 86 rfl 3 44 keyI Tryd.underlying86 Rv w.heap.size (k + 1) _ rfl hm9 (by unfold maxLen; omega) _ _ (.int .i64 n1) rfl rfl (keyOf_int_mk Tryd.underlying3 hwf.out) (.held cv) [] rfl ?_
      intro w8 hown8 hgrow8
      go_wp2_with fail
      refine NoPanic.normal ?_
      have HF8 := Lib.hid (show FtAt (k + 1) w8 w.heap.size from by
        refine ⟨fun j => if j = k then cv else vs j, ?_, fun j hj => ?_⟩
        · show w8.ownsMap _ _ _ _ _ ((ftD k fun j => if j = k then cv else vs j).put (.int .i64 (lkT (3 * k))) (.held (if k = k then cv else vs k)))
          rw [ftD_congr k _ vs (fun j hj => if_neg (by omega)), if_pos rfl, hn1]
          exact hown8
        · by_cases e : j = k
          · subst e
            dsimp only
            rw [if_pos rfl, hn2, hn3]
            exact HC9.out.map hm9 hgrow8
          · dsimp only
            rw [if_neg e]
            exact ((HCL3.out j (by omega)).below H9.out).map hm9 hgrow8)
      have HB8 := Lib.hid (show Below w.heap.size w w8 from (HB3.out.trans (H9.out.mono HB3.out.size)).grown hgrow8 (Nat.le_trans HB3.out.size H9.out.size) (fun k e => by cases e; exact Nat.le_refl _))
      clear hown8 hgrow8 hm9
      go_wp2_with fail
      go_roundw
      case rel => exact ⟨k + 1, HLT.out, by go_num, HF8, HB8⟩
      case measure => have := HLT.out; simp [RowKit.intOf]; omega
    · obtain rfl : k = 6 := by omega
      go_wp2_with fail
      go_ret
      exact ⟨_, rfl, HF.out, HB.out⟩
end Go.Proofs.YtifdcfjllonmgaaDoor
