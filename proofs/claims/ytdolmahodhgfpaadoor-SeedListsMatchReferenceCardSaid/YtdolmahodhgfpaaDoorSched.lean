/-
  The contract of digest.schedule: the words w(0) to w(63) of a block.
-/
import Derived.Test.YtdolmahodhgfpaaDoorCells
namespace Go.Proofs.YtdolmahodhgfpaaDoor
open Go Go.Proofs Go.RowKit Go.Lib

set_option maxRecDepth 100000 in
set_option maxHeartbeats 4000000 in
theorem schedule_any (b : List Nat) (hb : b.length = 64) (hB : ∀ x ∈ b, x < 256) (w : World) :
    Calls Tryd.prog 58 #[.agg (u8s b)] w fun e w' => e = .returned (.agg (u32s (sched b 48))) ∧ Below w.heap.size w w' := by
  have hi64 : (Tryd.prog.info? 79).map (·.size) = some (u8s b).size := by rw [u8s_size, hb]; kernel_rfl
  go_enter Tryd.func58, Tryd.ntmps58
  go_upto_region 2 with fail
  change Code.wp _ _ _ _ (schW w b)
  have hs := schW_size w b
  have h0 := schW_0 w b
  have h1 := schW_1 w b
  have h2 := schW_2 w b
  have hbw := schW_below w b
  obtain ⟨W3, hW3⟩ : ∃ W, schW w b = W := ⟨_, rfl⟩
  rw [hW3] at hs h0 h1 h2 hbw ⊢
  obtain ⟨B, hBn⟩ : ∃ n, w.heap.size = n := ⟨_, rfl⟩
  rw [hBn] at hs h0 h1 h2 hbw ⊢
  have HS := Lib.hid hs; have H0 := Lib.hid h0; have H1 := Lib.hid h1; have H2 := Lib.hid h2; have HBW := Lib.hid hbw; have HI := Lib.hid hi64; have HN := Lib.hid hb; have HBn := Lib.hid hBn
  clear hW3 hs h0 h1 h2 hbw hi64 hb hBn
  go_wp2_with (refine wpList_load_row rfl 79 (.tmp 1) rfl B rfl 79 (u8s b) (0, 0) _ H0.out Tryd.underlying79 rfl HI.out ?_)
  go_loopw [10] (fun i wr => ∃ k : Nat, k ≤ 64 ∧ i = .int .i64 k ∧ Is32 wr (B + 1 + 1) 85 (fillW b k) ∧ Is32 wr (B + 1) 85 (List.replicate 64 0) ∧ Below B w wr) (fun i _ => 64 - (RowKit.intOf i).toNat)
  case atStart => exact ⟨0, by omega, rfl, H2.out, H1.out, HBW.out⟩
  case round =>
    obtain ⟨k, hk, rfl, hA, hR, hbr⟩ := hrel
    by_cases hlt : k < 64
    · have hlt2 : (k : Int) < 64 := by omega
      have hl := fillW_length b k
      have hcell := hA.cell (k / 4) (by rw [hl]; omega)
      have hfro := hA.frozen (k / 4)
      have hidx := index8 (P := Tryd.prog) 79 5 b 64 HN.out Tryd.underlying79 Tryd.isAgg5 Tryd.sizeOf5 k hlt
      have hx := getD_word (fillW_lt b hB k) (k / 4)
      have hy := getD_byte hB k
      have hst : ∀ v, (fillW b k).getD (k / 4) 0 * 256 % 4294967296 ||| b.getD k 0 = v → fillW b (k + 1) = (fillW b k).set (k / 4) v := fun v hv => by rw [← hv]; rfl
      obtain ⟨x, hxe⟩ : ∃ x, (fillW b k).getD (k / 4) 0 = x := ⟨_, rfl⟩
      obtain ⟨y, hye⟩ : ∃ y, b.getD k 0 = y := ⟨_, rfl⟩
      rw [hxe] at hcell hx
      rw [hye] at hidx hy
      rw [hxe, hye] at hst
      obtain ⟨v, hv⟩ : ∃ v, x * 256 % 4294967296 ||| y = v := ⟨_, rfl⟩
      have hor : bits .or .u32 ((x : Int) * 256 % 4294967296) (y : Int) = (v : Int) := by
        rw [show ((x : Int) * 256 % 4294967296) = ((x * 256 % 4294967296 : Nat) : Int) by simp, or32 (Nat.mod_lt _ (by decide)) (by omega), hv]
      have hy2 : (y : Int) < 256 := by omega
      have HST := Lib.hid (hst v hv); have HA := Lib.hid hA; have HR := Lib.hid hR; have HB := Lib.hid hbr
      clear hst hv hxe hye hA hR hbr hl
      go_wp2
      go_roundw
      case rel => exact ⟨k + 1, by omega, by go_num, by rw [HST.out]; exact HA.out.store _ _, HR.out.other _ (by simp), HB.out.setCell (by simp; omega) _⟩
      case measure => simp [RowKit.intOf]; omega
    · have hk2 : k = 64 := by omega
      rw [hk2, fillW_64 b hB] at hA
      obtain ⟨wo, hwo⟩ : ∃ wo : World, wo = wr := ⟨_, rfl⟩
      rw [← hwo] at hA hR hbr ⊢
      have HA := Lib.hid hA; have HR := Lib.hid hR; have HB := Lib.hid hbr
      clear hk2 hA hR hbr hwo
      go_wp2_with fail
      go_loopw [6] (fun i wr => ∃ k : Nat, 16 ≤ k ∧ k ≤ 64 ∧ i = .int .i64 k ∧ Is32 wr (B + 1 + 1) 85 (sched b (k - 16) ++ List.replicate (64 - k) 0) ∧ Is32 wr (B + 1) 85 (List.replicate 64 0) ∧ Below B w wr) (fun i _ => 64 - (RowKit.intOf i).toNat)
      case atStart => exact ⟨16, by omega, by omega, rfl, HA.out, HR.out, HB.out⟩
      case round =>
        obtain ⟨k, hk16, hk, rfl, hA, hR, hbr⟩ := hrel
        have hsl := sched_length b (k - 16)
        have hal : (sched b (k - 16) ++ List.replicate (64 - k) 0).length = 64 := by simp [hsl]; omega
        by_cases hlt : k < 64
        · have hlt2 : (k : Int) < 64 := by omega
          have hlow2 : (16 : Int) ≤ (k : Int) := by omega
          have hg : ∀ j, j < k → (sched b (k - 16) ++ List.replicate (64 - k) 0).getD j 0 = (sched b (k - 16)).getD j 0 := by
            intro j hj
            rw [List.getD_eq_getElem?_getD, List.getD_eq_getElem?_getD, List.getElem?_append_left (by omega)]
          have c16 := hA.cell (k - 16) (by omega)
          have c15 := hA.cell (k - 15) (by omega)
          have c7 := hA.cell (k - 7) (by omega)
          have c2 := hA.cell (k - 2) (by omega)
          rw [hg _ (by omega)] at c16 c15 c7 c2
          have x16l := getD_word (sched_lt hB (k - 16)) (k - 16)
          have x15l := getD_word (sched_lt hB (k - 16)) (k - 15)
          have x7l := getD_word (sched_lt hB (k - 16)) (k - 7)
          have x2l := getD_word (sched_lt hB (k - 16)) (k - 2)
          have hnx : ∀ v, wNext (sched b (k - 16)) = v → (sched b (k - 16) ++ List.replicate (64 - k) 0).set k v = sched b (k + 1 - 16) ++ List.replicate (64 - (k + 1)) 0 := by
            intro v hv
            rw [show k + 1 - 16 = (k - 16) + 1 by omega, sched, hv, show 64 - k = (64 - (k + 1)) + 1 by omega, List.replicate_succ, List.set_append_right _ _ (by omega), show k - (sched b (k - 16)).length = 0 by omega]
            simp
          have hw : wNext (sched b (k - 16)) = add32 (add32 (add32 ((sched b (k - 16)).getD (k - 16) 0) (sg0 ((sched b (k - 16)).getD (k - 15) 0))) ((sched b (k - 16)).getD (k - 7) 0)) (sg1 ((sched b (k - 16)).getD (k - 2) 0)) := by
            unfold wNext; rw [hsl, show 16 + (k - 16) = k by omega]
          obtain ⟨x16, e16⟩ : ∃ x, (sched b (k - 16)).getD (k - 16) 0 = x := ⟨_, rfl⟩
          obtain ⟨x15, e15⟩ : ∃ x, (sched b (k - 16)).getD (k - 15) 0 = x := ⟨_, rfl⟩
          obtain ⟨x7, e7⟩ : ∃ x, (sched b (k - 16)).getD (k - 7) 0 = x := ⟨_, rfl⟩
          obtain ⟨x2, e2⟩ : ∃ x, (sched b (k - 16)).getD (k - 2) 0 = x := ⟨_, rfl⟩
          rw [e16] at c16 x16l hw
          rw [e15] at c15 x15l hw
          rw [e7] at c7 x7l hw
          rw [e2] at c2 x2l hw
          have k7 := fun W => right_lit x15 7 7 rfl x15l (by decide) (by decide) W
          have k18 := fun W => right_lit x15 18 18 rfl x15l (by decide) (by decide) W
          have k17 := fun W => right_lit x2 17 17 rfl x2l (by decide) (by decide) W
          have k19 := fun W => right_lit x2 19 19 rfl x2l (by decide) (by decide) W
          have l7 := rotr_lt (n := 7) x15l
          have l18 := rotr_lt (n := 18) x15l
          have l17 := rotr_lt (n := 17) x2l
          have l19 := rotr_lt (n := 19) x2l
          have hs0 : sg0 x15 = (rotr x15 7 ^^^ rotr x15 18) ^^^ (x15 / 8) := rfl
          have hs1 : sg1 x2 = (rotr x2 17 ^^^ rotr x2 19) ^^^ (x2 / 1024) := rfl
          obtain ⟨r7, er7⟩ : ∃ r, rotr x15 7 = r := ⟨_, rfl⟩
          obtain ⟨r18, er18⟩ : ∃ r, rotr x15 18 = r := ⟨_, rfl⟩
          obtain ⟨r17, er17⟩ : ∃ r, rotr x2 17 = r := ⟨_, rfl⟩
          obtain ⟨r19, er19⟩ : ∃ r, rotr x2 19 = r := ⟨_, rfl⟩
          rw [er7] at k7 l7 hs0
          rw [er18] at k18 l18 hs0
          rw [er17] at k17 l17 hs1
          rw [er19] at k19 l19 hs1
          have pl := xor_lt32 l7 l18
          have ql := xor_lt32 l17 l19
          have a1 := xor32 l7 l18
          have a2 := xor32 l17 l19
          obtain ⟨p, ep⟩ : ∃ p, r7 ^^^ r18 = p := ⟨_, rfl⟩
          obtain ⟨q, eq⟩ : ∃ q, r17 ^^^ r19 = q := ⟨_, rfl⟩
          rw [ep] at pl a1 hs0
          rw [eq] at ql a2 hs1
          have a3 : bits .xor .u32 (p : Int) ((x15 : Int) / 8) = ((sg0 x15 : Nat) : Int) := by
            rw [show (x15 : Int) / 8 = ((x15 / 8 : Nat) : Int) by omega, xor32 pl (by omega), hs0]
          have a4 : bits .xor .u32 (q : Int) ((x2 : Int) / 1024) = ((sg1 x2 : Nat) : Int) := by
            rw [show (x2 : Int) / 1024 = ((x2 / 1024 : Nat) : Int) by omega, xor32 ql (by omega), hs1]
          obtain ⟨s0, es0⟩ : ∃ s, sg0 x15 = s := ⟨_, rfl⟩
          obtain ⟨s1, es1⟩ : ∃ s, sg1 x2 = s := ⟨_, rfl⟩
          rw [es0] at a3 hw
          rw [es1] at a4 hw
          have b1 := wadd32 x16 s0
          obtain ⟨t1, et1⟩ : ∃ t, add32 x16 s0 = t := ⟨_, rfl⟩
          rw [et1] at b1 hw
          have b2 := wadd32 t1 x7
          obtain ⟨t2, et2⟩ : ∃ t, add32 t1 x7 = t := ⟨_, rfl⟩
          rw [et2] at b2 hw
          have b3 := wadd32 t2 s1
          obtain ⟨t3, et3⟩ : ∃ t, add32 t2 s1 = t := ⟨_, rfl⟩
          rw [et3] at b3 hw
          have HN2 := Lib.hid (hnx t3 hw)
          have hfro := hA.frozen k
          have hcell : wr.cell? ⟨B + 1 + 1, k, none⟩ = some (.int .u32 (((sched b (k - 16) ++ List.replicate (64 - k) 0).getD k 0 : Nat) : Int)) := hA.cell k (by omega)
          obtain ⟨old, eo⟩ : ∃ o, (sched b (k - 16) ++ List.replicate (64 - k) 0).getD k 0 = o := ⟨_, rfl⟩
          rw [eo] at hcell
          have HA := Lib.hid hA; have HR := Lib.hid hR; have HB := Lib.hid hbr; have K7 := Lib.hid k7; have K18 := Lib.hid k18; have K17 := Lib.hid k17; have K19 := Lib.hid k19
          clear hA hR hbr k7 k18 k17 k19 hs0 hs1 er7 er18 er17 er19 ep eq es0 es1 et1 et2 et3 e16 e15 e7 e2 hw hnx hg hal hsl eo
          go_wp2_with fail
          go_quiet ((first | (go_at_call 59; exact q_same K7.out) | (go_at_call 59; exact q_same K18.out)))
          go_wp2_with fail
          go_quiet ((first | (go_at_call 59; exact q_add K17.out) | (go_at_call 59; exact q_add K19.out)))
          go_wp2_with fail
          go_region
          go_wp2
          go_roundw
          case rel => exact ⟨k + 1, by omega, by omega, by go_num, by rw [← HN2.out]; exact (HA.out.drewN _).store _ _, (HR.out.drewN _).other _ (by simp), (below_drewN HB.out _).setCell (by simp; omega) _⟩
          case measure => simp [RowKit.intOf]; omega
        · have hk2 : k = 64 := by omega
          rw [hk2] at hA
          have hA' : Is32 wr (B + 1 + 1) 85 (sched b 48) := by simpa using hA
          have hi72 : (Tryd.prog.info? 85).map (·.size) = some (u32s (sched b 48)).size := by rw [u32s_size, sched_length]; kernel_rfl
          have HA := Lib.hid hA'; have HR := Lib.hid hR; have HB := Lib.hid hbr; have HJ := Lib.hid hi72
          clear hA hA' hR hbr hk2 hal hsl hi72
          go_wp2_with (first | (refine wpList_load_row rfl 85 (.tmp 3) rfl (B + 1 + 1) rfl 85 (u32s (sched b 48)) (0, 0) _ HA.out Tryd.underlying85 rfl HJ.out ?_) | (refine wpList_store_row rfl 85 (.tmp 2) (.tmp 79) rfl (B + 1) (u32s (sched b 48)) rfl rfl 85 (u32s (List.replicate 64 0)) HR.out HJ.out (by simp [sched_length]) (u32s_one _) ?_))
          exact bodyPost_ret (v := .agg (u32s (sched b 48))) (results_cell_row rfl _ _ (B + 1) 85 _ (0, 0) _ rfl (setRow_heap _ _ _ _ _ _ HR.out) Tryd.underlying85 rfl HJ.out) rfl ⟨rfl, by rw [HBn.out]; exact below_setRow (g := B + 1) HB.out (by omega) _⟩
end Go.Proofs.YtdolmahodhgfpaaDoor
