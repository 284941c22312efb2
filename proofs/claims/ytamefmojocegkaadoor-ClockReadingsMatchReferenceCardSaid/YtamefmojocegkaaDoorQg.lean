/-
  Layer 8: the contract of the reference's Find, for events that are a trace and times that are times.
-/
import Derived.Test.YtamefmojocegkaaDoorQg0
namespace Go.Proofs.YtamefmojocegkaaDoor
open Go Go.Proofs Go.RowKit Go.Lib Go.Sort

set_option maxRecDepth 100000 in
set_option maxHeartbeats 16000000 in
theorem findR_any (v : Value) (f : Fl) (ad ad2 : Option Addr) (c c2 : Nat) (l : List Ev) (x : List Int) (a : Int) (hfit : f.fit) (he : EvsOk f l) (ht : timesB l.length x = true) (a0 : -9223372036854775808 ≤ a) (a1 : a ≤ 9223372036854775807) (w : World) (hf : FlAt w v f) (hI : RL KE w ad l) (hJ : RL KI w ad2 x) :
    Calls Tryd.prog 32 #[v, .slice ad l.length c, .slice ad2 x.length c2, .int .i64 a] w (FindPost w (fdV f l x a) (fdE f l x a)) := by
  have hevb := evsB_yes he
  have HFA := Lib.hid (fun W (b : Below w.heap.size w W) => hf.below b)
  have HIA := Lib.hid (fun W (b : Below w.heap.size w W) => hI.below b)
  have HJA := Lib.hid (fun W (b : Below w.heap.size w W) => hJ.below b)
  have HFE := Lib.hid he
  have HXL := Lib.hid (timesB_of ht).2
  have HXB := Lib.hid (timesB_of ht).1
  have hl24 : l.length ≤ 24 := he.2.1
  have hfl : 1 ≤ f.dr.length ∧ f.dr.length ≤ 6 := (flB_of he.1).1
  obtain ⟨x1, c1, x2, c3, x3, c4, rfl, hfd, _, _⟩ := hf
  have HDR := Lib.hid hfd
  have CV := Lib.hid (fun W h h2 => eventsR_any (.agg #[.slice x1 f.dr.length c1, .int .i64 f.lat, .int .i64 f.lia, .slice x2 f.sv.length c3, .slice x3 f.tm.length c4]) f ad c l hfit (by unfold maxLen; omega) W h h2)
  rw [hevb] at CV
  have CT := Lib.hid (fun W h => timesR_any ad ad2 l.length c c2 x (by rw [HXL.out]; unfold maxLen; omega) W h)
  rw [ht] at CT
  have CS := Lib.hid (fun W h a b s t => shownR_any (.agg #[.slice x1 f.dr.length c1, .int .i64 f.lat, .int .i64 f.lia, .slice x2 f.sv.length c3, .slice x3 f.tm.length c4]) f a b s t W h)
  have HNO := Lib.hid (fun h : ¬ FdOk f l x a => show fdV f l x a = ⟨0, []⟩ ∧ fdE f l x a = 80 from by unfold fdV fdE; rw [fdB_no h]; exact ⟨rfl, rfl⟩)
  have HYES := Lib.hid (fun (b0 : 0 ≤ a) (b1 : a < (f.dr.length : Int)) (hp : PairsK f l x a l.length) (hc : ckB ⟨f.drOf a, anK8 l x a l.length⟩ = true) => show fdV f l x a = ⟨f.drOf a, anK8 l x a l.length⟩ ∧ fdE f l x a = 0 from by
    have h := fd_of_all hevb ht b0 b1 hp hc
    unfold fdV fdE
    rw [if_pos h, if_pos h]
    exact ⟨rfl, rfl⟩)
  obtain ⟨VV, hVV⟩ : ∃ VV, fdV f l x a = VV := ⟨_, rfl⟩
  obtain ⟨EE, hEE⟩ : ∃ EE, fdE f l x a = EE := ⟨_, rfl⟩
  rw [hVV, hEE] at HNO HYES ⊢
  obtain ⟨w1, V1, Z1, K1, B1⟩ := lay8 w [.slice x1 f.dr.length c1, .int .i64 f.lat, .int .i64 f.lia, .slice x2 f.sv.length c3, .slice x3 f.tm.length c4] 24
  have V1 := (show w.alloc (.cells #[.slice x1 f.dr.length c1, .int .i64 f.lat, .int .i64 f.lia, .slice x2 f.sv.length c3, .slice x3 f.tm.length c4] 24) = w1 from V1)
  obtain ⟨w2, V2, Z2, K2, B2⟩ := lay8 w1 [.int .i64 0, .slice none 0 0] 50
  have V2 := (show w1.alloc (.cells #[.int .i64 0, .slice none 0 0] 50) = w2 from V2)
  rw [Z1] at Z2 K2
  have HB2 := Lib.hid (below_up8 B1 B2)
  have HK2 := Lib.hid (K1.below B2)
  have HR2 := Lib.hid K2
  have hz2 : w.heap.size + 2 ≤ w2.heap.size := by omega
  clear K1 B1 K2 B2 Z2 hI hJ hfd hVV hEE hevb ht hfit he
  go_enter Tryd.func32, Tryd.ntmps32
  go_upto_region 1 with fail
  clear V1 V2
  have f0 := (show w2.cell? ⟨w.heap.size, 0, none⟩ = some (.slice x1 f.dr.length c1) from (HK2.out 0 (by simp)).1)
  have f1 := (show w2.cell? ⟨w.heap.size, 1, none⟩ = some (.int .i64 f.lat) from (HK2.out 1 (by simp)).1)
  have f2 := (show w2.cell? ⟨w.heap.size, 2, none⟩ = some (.int .i64 f.lia) from (HK2.out 2 (by simp)).1)
  have f3 := (show w2.cell? ⟨w.heap.size, 3, none⟩ = some (.slice x2 f.sv.length c3) from (HK2.out 3 (by simp)).1)
  have f4 := (show w2.cell? ⟨w.heap.size, 4, none⟩ = some (.slice x3 f.tm.length c4) from (HK2.out 4 (by simp)).1)
  go_wp2_with fail
  refine (CV.out _ (HFA.out _ HB2.out) (HIA.out _ HB2.out)).mono ?_
  rintro e w3 ⟨rfl, hb⟩
  have HB3 := Lib.hid (below_up8 HB2.out hb)
  have HK3 := Lib.hid (HK2.out.below hb)
  have HR3 := Lib.hid (HR2.out.below hb)
  have hz3 : w.heap.size + 2 ≤ w3.heap.size := by have := hb.size; omega
  clear hb HB2 HK2 HR2 f0 f1 f2 f3 f4 hz2
  have f0 := (show w3.cell? ⟨w.heap.size, 0, none⟩ = some (.slice x1 f.dr.length c1) from (HK3.out 0 (by simp)).1)
  have HCT := Lib.hid (CT.out w3 (HJA.out _ HB3.out))
  have hin : ¬ (a < 0 ∨ (f.dr.length : Int) ≤ a) ∨ (a < 0 ∨ (f.dr.length : Int) ≤ a) := (Classical.em _).symm
  rcases hin with hin | hin
  case inr =>
    have hbad : ¬ FdOk f l x a := fun h => by obtain ⟨_, _, h3, h4, _⟩ := h; omega
    have HBAD := Lib.hid hbad
    have hd : decide (a < 0) = true ∨ (decide (a < 0) = false ∧ decide (f.dr.length ≤ a) = true) := by
      by_cases h : a < 0
      · exact .inl (decide_eq_true h)
      · exact .inr ⟨decide_eq_false h, decide_eq_true (by omega)⟩
    clear hbad
    by_cases hneg : a < 0
    · clear hd hin
      have HF := Lib.hid (HNO.out HBAD.out)
      obtain ⟨z00, z01⟩ := HR3.out 0 (by simp); obtain ⟨z10, z11⟩ := HR3.out 1 (by simp)
      simp only [List.getElem_cons_zero, List.getElem_cons_succ] at z00 z01 z10 z11
      have HKZ := Lib.hid (((HR3.out).put 0 (.int .i64 0)).put 1 (.slice none 0 0))
      have HBZ := Lib.hid (((HB3.out).setCell (p := ⟨w.heap.size + 1, 0, none⟩) (Nat.le_succ _) (.int .i64 0)).setCell (p := ⟨w.heap.size + 1, 1, none⟩) (Nat.le_succ _) (.slice none 0 0))
      go_wp2_with (go_at_call 52; refine HCT.out.mono ?_; rintro e z ⟨rfl, rfl⟩)
      obtain ⟨WF, hWF⟩ : ∃ WF, WF = ((w3.setCell ⟨w.heap.size + 1, 0, none⟩ (.int .i64 0)).setCell ⟨w.heap.size + 1, 1, none⟩ (.slice none 0 0)) := ⟨_, rfl⟩
      rw [← hWF] at HKZ HBZ ⊢
      clear z00 z01 z10 z11 hWF
      obtain ⟨g0, _⟩ := HKZ.out 0 (by simp); obtain ⟨g1, _⟩ := HKZ.out 1 (by simp)
      simp only [List.set_cons_zero, List.set_cons_succ, List.getElem_cons_zero, List.getElem_cons_succ] at g0 g1
      exact bodyPost_ret (v := .tuple #[.agg #[.int .i64 0, .slice none 0 0], .int .i64 80]) (by simp [results, Tryd.results32, go_sem, g0, g1]) rfl
        ⟨none, 0, by rw [HF.out.1, HF.out.2]; rfl, by rw [HF.out.1]; exact Nat.le_refl _, by rw [HF.out.1]; exact .inl rfl, HBZ.out⟩
    · have hge : (f.dr.length : Int) ≤ a := by omega
      clear hd hin
      have HF := Lib.hid (HNO.out HBAD.out)
      obtain ⟨z00, z01⟩ := HR3.out 0 (by simp); obtain ⟨z10, z11⟩ := HR3.out 1 (by simp)
      simp only [List.getElem_cons_zero, List.getElem_cons_succ] at z00 z01 z10 z11
      have HKZ := Lib.hid (((HR3.out).put 0 (.int .i64 0)).put 1 (.slice none 0 0))
      have HBZ := Lib.hid (((HB3.out).setCell (p := ⟨w.heap.size + 1, 0, none⟩) (Nat.le_succ _) (.int .i64 0)).setCell (p := ⟨w.heap.size + 1, 1, none⟩) (Nat.le_succ _) (.slice none 0 0))
      go_wp2_with (go_at_call 52; refine HCT.out.mono ?_; rintro e z ⟨rfl, rfl⟩)
      obtain ⟨WF, hWF⟩ : ∃ WF, WF = ((w3.setCell ⟨w.heap.size + 1, 0, none⟩ (.int .i64 0)).setCell ⟨w.heap.size + 1, 1, none⟩ (.slice none 0 0)) := ⟨_, rfl⟩
      rw [← hWF] at HKZ HBZ ⊢
      clear z00 z01 z10 z11 hWF
      obtain ⟨g0, _⟩ := HKZ.out 0 (by simp); obtain ⟨g1, _⟩ := HKZ.out 1 (by simp)
      simp only [List.set_cons_zero, List.set_cons_succ, List.getElem_cons_zero, List.getElem_cons_succ] at g0 g1
      exact bodyPost_ret (v := .tuple #[.agg #[.int .i64 0, .slice none 0 0], .int .i64 80]) (by simp [results, Tryd.results32, go_sem, g0, g1]) rfl
        ⟨none, 0, by rw [HF.out.1, HF.out.2]; rfl, by rw [HF.out.1]; exact Nat.le_refl _, by rw [HF.out.1]; exact .inl rfl, HBZ.out⟩
  case inl =>
    have ha0 : 0 ≤ a := by omega
    have ha1 : a < (f.dr.length : Int) := by omega
    have hn0 : ¬ a < 0 := by omega
    have hn1 : ¬ (f.dr.length : Int) ≤ a := by omega
    have HAB := Lib.hid (And.intro ha0 ha1)
    obtain ⟨an, rfl⟩ := Int.eq_ofNat_of_zero_le ha0
    have hal : an < f.dr.length := by omega
    obtain ⟨db, dO, ex1, _, hdc⟩ := HDR.out.int an hal
    rw [ex1] at f0
    clear ex1
    have f5 := hdc w3 HB3.out
    rw [show f.dr[an]'hal = f.drOf (an : Int) from by unfold Fl.drOf; rw [Int.toNat_natCast, List.getD_eq_getElem?_getD, List.getElem?_eq_getElem hal]; rfl] at f5
    have ixd := fun W => at_int8 db dO f.dr.length c1 an hal W
    have HDB := Lib.hid (drOf_bd HFE.out.1 ha0 ha1)
    obtain ⟨D, hD⟩ : ∃ D, D = f.drOf (an : Int) := ⟨_, rfl⟩
    rw [← hD] at f5 HDB
    have HD := Lib.hid hD
    have d0 : decide ((an : Int) < 0) = false := decide_eq_false (by omega)
    have d1 : decide (f.dr.length ≤ an) = false := decide_eq_false (by omega)
    have d2 : decide ((f.dr.length : Int) ≤ (an : Int)) = false := decide_eq_false (by omega)
    have d3 : ¬ f.dr.length ≤ an := by omega
    obtain ⟨w4, V4, Z4, K4, B4⟩ := lay8 w3 [.int .i64 D, .slice none 0 0] 50
    have V4 := (show w3.alloc (.cells #[.int .i64 D, .slice none 0 0] 50) = w4 from V4)
    have HB34 := Lib.hid B4
    have HC4 := Lib.hid K4
    have hz4 : w4.heap.size = w3.heap.size + 1 := Z4
    obtain ⟨j0, j1⟩ := K4 1 (by simp)
    simp only [List.getElem_cons_zero, List.getElem_cons_succ] at j0
    clear hD K4 B4 Z4 hin ha0 hdc
    go_upto_region 4 with (go_at_call 52; refine HCT.out.mono ?_; rintro e z ⟨rfl, rfl⟩)
    clear V4 f0 f5 ixd hn0 hn1 HCT hal d0 d1 d2 d3 j0 j1
    obtain ⟨w5, hw5⟩ : ∃ w5, w5 = w4.setCell ⟨w3.heap.size, 1, none⟩ (.slice none 0 0) := ⟨_, rfl⟩
    rw [← hw5]
    have HC4 := Lib.hid (show CellsAt w5 w3.heap.size [.int .i64 D, .slice none 0 0] from by rw [hw5]; exact HC4.out.put 1 (.slice none 0 0))
    have HB34 := Lib.hid (show Below w3.heap.size w3 w5 from by rw [hw5]; exact HB34.out.setCell (Nat.le_refl _) _)
    have hz4 : w5.heap.size = w3.heap.size + 1 := by rw [hw5]; simpa using hz4
    clear hw5
    go_wp2_with fail
    obtain ⟨C, hC⟩ : ∃ C, C = w3.heap.size := ⟨_, rfl⟩
    rw [← hC] at HC4 hz4 HB34 ⊢
    have HCC := Lib.hid hC
    clear hC
    go_loopw [11] (fun i wr => ∃ k : Nat, i = .int .i64 k ∧ k ≤ l.length ∧ ∃ vv : Value, Hid (CellsAt wr C [.int .i64 D, vv] ∧ Own KA wr (C + 1) vv (anK8 l x (an : Int) k) ∧ PairsK f l x (an : Int) k ∧ C + 1 ≤ wr.heap.size) ∧ Hid (Below C w3 wr)) (fun i _ => l.length - (RowKit.intOf i).toNat)
    case atStart => exact ⟨0, rfl, Nat.zero_le _, .slice none 0 0, Lib.hid ⟨HC4.out, Own.nil _ _ _, pairsK_zero _ _ _ _, by omega⟩, HB34⟩
    case round =>
      obtain ⟨k, rfl, hk, vv, HS, HBr⟩ := hrel
      generalize wr = wa at *
      have HBwa := Lib.hid (show Below w.heap.size w wa from HB3.out.trans (HBr.out.mono (by rw [HCC.out]; omega)))
      have HUP := Lib.hid (show Below w3.heap.size w3 wa from by rw [← HCC.out]; exact HBr.out)
      by_cases hlk : k < l.length
      · have hkk : (k : Int) < (l.length : Int) := by omega
        have HLK := Lib.hid hlk
        obtain ⟨zb, zo, ez, _, hzc⟩ := (HIA.out w (Below.refl _ _)).evs (by omega)
        subst ez
        have HZC := Lib.hid (fun W (b : Below w.heap.size w W) q (hq : q < l.length) => hzc q hq W b)
        have ixz := fun W => at_ev8 zb zo l.length c k hlk W
        have HIX := Lib.hid (fun q (hq : q < l.length) W => at_ev8 zb zo l.length c q hq W)
        have e0 := (HZC.out wa HBwa.out k hlk).1
        by_cases hag : (evD l k).ag = (an : Int)
        · have hne : ((evD l k).ag != (an : Int)) = false := by rw [hag]; exact bne_self_eq_false _
          have HAG := Lib.hid hag
          have hxk : k < x.length := by rw [HXL.out]; exact hlk
          obtain ⟨xb, xo, ex, _, hxc⟩ := (HJA.out w (Below.refl _ _)).int k hxk
          subst ex
          have HXC := Lib.hid (fun q (hq : q < x.length) => (show ∃ b o, some (⟨xb, xo, none⟩ : Addr) = some ⟨b, o, none⟩ ∧ b < w.heap.size ∧ ∀ W', Below w.heap.size w W' → W'.cell? ⟨b, o + q, none⟩ = some (.int .i64 x[q]) from (HJA.out w (Below.refl _ _)).int q hq))
          have HXQ := Lib.hid (show ∀ W (b : Below w.heap.size w W) q (hq : q < l.length), W.cell? ⟨xb, xo + q, none⟩ = some (.int .i64 (xD x q)) from fun W b q hq => by
            have hq2 : q < x.length := by rw [HXL.out]; exact hq
            obtain ⟨b2, o2, e2, _, h2⟩ := HXC.out q hq2
            injection e2 with e2
            injection e2 with e2 e3
            subst e2 e3
            rw [xD_of hq2]
            exact h2 W b)
          have ixx := fun W => at_int8 xb xo x.length c2 k hxk W
          have HIY := Lib.hid (fun q (hq : q < x.length) W => at_int8 xb xo x.length c2 q hq W)
          have hev := HFE.out.2.2 k hlk
          obtain ⟨_, _, ⟨t0, t1⟩, _⟩ := evB_of hev.1
          have hxb := HXB.out k
          obtain ⟨s1, s2, s3, s4⟩ := HS.out
          have HOW := Lib.hid s2
          have HPR := Lib.hid s3
          have HCL := Lib.hid s1
          have hz9 : C + 1 ≤ wa.heap.size := s4
          obtain ⟨aad, acp, ea, _⟩ := s2.form
          obtain ⟨LA, hLA⟩ : ∃ LA, LA = anK8 l x (an : Int) k := ⟨_, rfl⟩
          rw [← hLA] at HOW ea
          subst ea
          have HNX := Lib.hid (show anK8 l x (an : Int) (k + 1) = LA ++ [⟨(evD l k).tm + 1, xD x k + 1⟩] from by rw [hLA]; exact anK8_yes hag)
          have hlen : LA.length ≤ 24 := by have := anK8_len l x (an : Int) k; rw [← hLA] at this; omega
          have HLN := Lib.hid (show LA.length + 1 ≤ 100000000 from by omega)
          obtain ⟨TK, hTK⟩ : ∃ TK, TK = (evD l k).tm := ⟨_, rfl⟩
          obtain ⟨XK, hXK⟩ : ∃ XK, XK = xD x k := ⟨_, rfl⟩
          rw [← hTK] at t0 t1 HNX
          rw [← hXK] at hxb HNX
          have HTK := Lib.hid hTK
          have HXK := Lib.hid hXK
          have w1 : IntKind.i64.wrap (TK + 1) = TK + 1 := wrapq8 (by omega)
          have w2' : IntKind.i64.wrap (XK + 1) = XK + 1 := wrapq8 (by omega)
          have HE2 := Lib.hid (show ∀ W, Below wa.heap.size wa W → W.cell? ⟨zb, zo + 12 * k + 2, none⟩ = some (.int .i64 TK) ∧ W.cell? ⟨xb, xo + k, none⟩ = some (.int .i64 XK) ∧ W.cell? ⟨C, 1, none⟩ = some (.slice aad LA.length acp) from fun W b => ⟨by rw [hTK]; exact (HZC.out W (below_up8 HBwa.out b) k hlk).2.2.1, by rw [hXK]; exact HXQ.out W (below_up8 HBwa.out b) k hlk, (HCL.out.below b 1 (by simp)).1⟩)
          clear s1 s2 s3 s4 hLA hTK hXK hag hlk hzc hxc HS hev hxk HXC
          go_upto_region 8 with fail
          clear e0 hne
          go_cut [] from 55 to 71 (fun wx => ∃ vn : Value, Hid (CellsAt wx C [.int .i64 D, vn] ∧ Own KA wx (C + 1) vn (LA ++ [⟨TK + 1, XK + 1⟩]) ∧ C + 1 ≤ wx.heap.size) ∧ Hid (Below C w3 wx))
          case first =>
            skip
            refine wp_region_noPanic ?_
            refine wp_region_Kx (C := Grew wa) [15, 16, 17] 15 #[false, false, false, false, false, false, false, false, false, false, false, false, false, false, false, false, false, false] (by kernel_rfl) (by kernel_rfl) (by kernel_rfl) (grew0 _) ?_
            intro wx hwx
            refine wpAnyK_ex (i := 0) rfl (by kernel_rfl) (listed' := #[true, false, false, false, false, false, false, false, false, false, false, false, false, false, false, false, false, false]) rfl (fun _ _ _ _ _ h => h) hwx ?_
            apply Exists.intro
            refine ⟨⟨by kernel_rfl, fun wy hw => ?_⟩, ?_⟩
            · (have bw := hw.below; have g0 := (HE2.out _ bw).1; have g1 := (HE2.out _ bw).2.1; have g2 := (HE2.out _ bw).2.2; go_simp; try (first | (with_reducible rfl) | (with_reducible exact ⟨rfl, rfl⟩)))
            try simp only [Act.put, List.getElem_toArray, List.getElem_cons_zero, List.setIfInBounds_toArray, List.set_cons_succ, List.set_cons_zero]
            refine wpAnyK_ex (i := 1) rfl (by kernel_rfl) (listed' := #[true, true, false, false, false, false, false, false, false, false, false, false, false, false, false, false, false, false]) rfl (fun _ _ _ _ _ h => h) hwx ?_
            apply Exists.intro
            refine ⟨⟨by kernel_rfl, fun wy hw => ?_⟩, ?_⟩
            · (have bw := hw.below; have g0 := (HE2.out _ bw).1; have g1 := (HE2.out _ bw).2.1; have g2 := (HE2.out _ bw).2.2; go_simp; try (first | (with_reducible rfl) | (with_reducible exact ⟨rfl, rfl⟩)))
            try simp only [Act.put, List.getElem_toArray, List.getElem_cons_succ, List.getElem_cons_zero, List.setIfInBounds_toArray, List.set_cons_succ, List.set_cons_zero]
            refine wpAnyK_ex (i := 2) rfl (by kernel_rfl) (listed' := #[true, true, true, false, false, false, false, false, false, false, false, false, false, false, false, false, false, false]) rfl (fun _ _ _ _ _ h => h) hwx ?_
            apply Exists.intro
            refine ⟨⟨by kernel_rfl, fun wy hw => ?_⟩, ?_⟩
            · (have bw := hw.below; have g0 := (HE2.out _ bw).1; have g1 := (HE2.out _ bw).2.1; have g2 := (HE2.out _ bw).2.2; go_simp; try (first | (with_reducible rfl) | (with_reducible exact ⟨rfl, rfl⟩)))
            try simp only [Act.put, List.getElem_toArray, List.getElem_cons_succ, List.getElem_cons_zero, List.setIfInBounds_toArray, List.set_cons_succ, List.set_cons_zero]
            refine wpAnyK_ex (i := 3) rfl (by kernel_rfl) (listed' := #[true, true, true, true, false, false, false, false, false, false, false, false, false, false, false, false, false, false]) rfl (fun _ _ _ _ _ h => h) hwx ?_
            apply Exists.intro
            refine ⟨⟨by kernel_rfl, fun wy hw => ?_⟩, ?_⟩
            · (have bw := hw.below; have g0 := (HE2.out _ bw).1; have g1 := (HE2.out _ bw).2.1; have g2 := (HE2.out _ bw).2.2; go_simp; try (first | (with_reducible rfl) | (with_reducible exact ⟨rfl, rfl⟩)))
            try simp only [Act.put, List.getElem_toArray, List.getElem_cons_succ, List.getElem_cons_zero, List.setIfInBounds_toArray, List.set_cons_succ, List.set_cons_zero]
            refine wpAnyK_ex (i := 4) rfl (by kernel_rfl) (listed' := #[true, true, true, true, true, false, false, false, false, false, false, false, false, false, false, false, false, false]) rfl (fun _ _ _ _ _ h => h) hwx ?_
            apply Exists.intro
            refine ⟨⟨by kernel_rfl, fun wy hw => ?_⟩, ?_⟩
            · (have bw := hw.below; have g0 := (HE2.out _ bw).1; have g1 := (HE2.out _ bw).2.1; have g2 := (HE2.out _ bw).2.2; go_simp; try (first | (with_reducible rfl) | (with_reducible exact ⟨rfl, rfl⟩)))
            try simp only [Act.put, List.getElem_toArray, List.getElem_cons_succ, List.getElem_cons_zero, List.setIfInBounds_toArray, List.set_cons_succ, List.set_cons_zero]
            refine wpAnyK_ex (i := 5) rfl (by kernel_rfl) (listed' := #[true, true, true, true, true, true, false, false, false, false, false, false, false, false, false, false, false, false]) rfl (fun _ _ _ _ _ h => h) hwx ?_
            apply Exists.intro
            refine ⟨⟨by kernel_rfl, fun wy hw => ?_⟩, ?_⟩
            · (have bw := hw.below; have g0 := (HE2.out _ bw).1; have g1 := (HE2.out _ bw).2.1; have g2 := (HE2.out _ bw).2.2; go_simp; try (first | (with_reducible rfl) | (with_reducible exact ⟨rfl, rfl⟩)))
            try simp only [Act.put, List.getElem_toArray, List.getElem_cons_succ, List.getElem_cons_zero, List.setIfInBounds_toArray, List.set_cons_succ, List.set_cons_zero]
            refine wpAnyK_ex (i := 6) rfl (by kernel_rfl) (listed' := #[true, true, true, true, true, true, true, false, false, false, false, false, false, false, false, false, false, false]) rfl (fun _ _ _ _ _ h => h) hwx ?_
            apply Exists.intro
            refine ⟨⟨by kernel_rfl, fun wy hw => ?_⟩, ?_⟩
            · (have bw := hw.below; have g0 := (HE2.out _ bw).1; have g1 := (HE2.out _ bw).2.1; have g2 := (HE2.out _ bw).2.2; go_simp; try (first | (with_reducible rfl) | (with_reducible exact ⟨rfl, rfl⟩)))
            try simp only [Act.put, List.getElem_toArray, List.getElem_cons_succ, List.getElem_cons_zero, List.setIfInBounds_toArray, List.set_cons_succ, List.set_cons_zero]
            refine wpAnyK_ex (i := 7) rfl (by kernel_rfl) (listed' := #[true, true, true, true, true, true, true, true, false, false, false, false, false, false, false, false, false, false]) rfl (fun _ _ _ _ _ h => h) hwx ?_
            apply Exists.intro
            refine ⟨⟨by kernel_rfl, fun wy hw => ?_⟩, ?_⟩
            · (have bw := hw.below; have g0 := (HE2.out _ bw).1; have g1 := (HE2.out _ bw).2.1; have g2 := (HE2.out _ bw).2.2; go_simp; try (first | (with_reducible rfl) | (with_reducible exact ⟨rfl, rfl⟩)))
            try simp only [Act.put, List.getElem_toArray, List.getElem_cons_succ, List.getElem_cons_zero, List.setIfInBounds_toArray, List.set_cons_succ, List.set_cons_zero]
            refine wpAnyK_ex (i := 8) rfl (by kernel_rfl) (listed' := #[true, true, true, true, true, true, true, true, true, false, false, false, false, false, false, false, false, false]) rfl (fun _ _ _ _ _ h => h) hwx ?_
            apply Exists.intro
            refine ⟨⟨by kernel_rfl, fun wy hw => ?_⟩, ?_⟩
            · (have bw := hw.below; have g0 := (HE2.out _ bw).1; have g1 := (HE2.out _ bw).2.1; have g2 := (HE2.out _ bw).2.2; go_simp; try (first | (with_reducible rfl) | (with_reducible exact ⟨rfl, rfl⟩)))
            try simp only [Act.put, List.getElem_toArray, List.getElem_cons_succ, List.getElem_cons_zero, List.setIfInBounds_toArray, List.set_cons_succ, List.set_cons_zero]
            refine wpAnyK_ex (i := 9) rfl (by kernel_rfl) (listed' := #[true, true, true, true, true, true, true, true, true, true, false, false, false, false, false, false, false, false]) rfl (fun _ _ _ _ _ h => h) hwx ?_
            apply Exists.intro
            refine ⟨⟨by kernel_rfl, fun wy hw => ?_⟩, ?_⟩
            · (have bw := hw.below; have g0 := (HE2.out _ bw).1; have g1 := (HE2.out _ bw).2.1; have g2 := (HE2.out _ bw).2.2; go_simp; try (first | (with_reducible rfl) | (with_reducible exact ⟨rfl, rfl⟩)))
            try simp only [Act.put, List.getElem_toArray, List.getElem_cons_succ, List.getElem_cons_zero, List.setIfInBounds_toArray, List.set_cons_succ, List.set_cons_zero]
            refine wpAnyK_ex (i := 10) rfl (by kernel_rfl) (listed' := #[true, true, true, true, true, true, true, true, true, true, true, false, false, false, false, false, false, false]) rfl (fun _ _ _ _ _ h => h) hwx ?_
            apply Exists.intro
            refine ⟨⟨by kernel_rfl, fun wy hw => ?_⟩, ?_⟩
            · (have bw := hw.below; have g0 := (HE2.out _ bw).1; have g1 := (HE2.out _ bw).2.1; have g2 := (HE2.out _ bw).2.2; go_simp; try (first | (with_reducible rfl) | (with_reducible exact ⟨rfl, rfl⟩)))
            try simp only [Act.put, List.getElem_toArray, List.getElem_cons_succ, List.getElem_cons_zero, List.setIfInBounds_toArray, List.set_cons_succ, List.set_cons_zero]
            refine wpAnyK_ex (i := 11) rfl (by kernel_rfl) (listed' := #[true, true, true, true, true, true, true, true, true, true, true, true, false, false, false, false, false, false]) rfl (fun _ _ _ _ _ h => h) hwx ?_
            apply Exists.intro
            refine ⟨⟨by kernel_rfl, fun wy hw => ?_⟩, ?_⟩
            · (have bw := hw.below; have g0 := (HE2.out _ bw).1; have g1 := (HE2.out _ bw).2.1; have g2 := (HE2.out _ bw).2.2; go_simp; try (first | (with_reducible rfl) | (with_reducible exact ⟨rfl, rfl⟩)))
            try simp only [Act.put, List.getElem_toArray, List.getElem_cons_succ, List.getElem_cons_zero, List.setIfInBounds_toArray, List.set_cons_succ, List.set_cons_zero]
            refine wpAnyK_ex (i := 12) rfl (by kernel_rfl) (listed' := #[true, true, true, true, true, true, true, true, true, true, true, true, true, false, false, false, false, false]) rfl (fun _ _ _ _ _ h => h) hwx ?_
            apply Exists.intro
            refine ⟨⟨by kernel_rfl, fun wy hw => ?_⟩, ?_⟩
            · (have bw := hw.below; have g0 := (HE2.out _ bw).1; have g1 := (HE2.out _ bw).2.1; have g2 := (HE2.out _ bw).2.2; go_simp; try (first | (with_reducible rfl) | (with_reducible exact ⟨rfl, rfl⟩)))
            try simp only [Act.put, List.getElem_toArray, List.getElem_cons_succ, List.getElem_cons_zero, List.setIfInBounds_toArray, List.set_cons_succ, List.set_cons_zero]
            refine wpAnyK_ex (i := 13) rfl (by kernel_rfl) (listed' := #[true, true, true, true, true, true, true, true, true, true, true, true, true, true, false, false, false, false]) rfl (fun _ _ _ _ _ h => h) hwx ?_
            apply Exists.intro
            refine ⟨⟨by kernel_rfl, fun wy hw => ?_⟩, ?_⟩
            · (have bw := hw.below; have g0 := (HE2.out _ bw).1; have g1 := (HE2.out _ bw).2.1; have g2 := (HE2.out _ bw).2.2; go_simp; try (first | (with_reducible rfl) | (with_reducible exact ⟨rfl, rfl⟩)))
            try simp only [Act.put, List.getElem_toArray, List.getElem_cons_succ, List.getElem_cons_zero, List.setIfInBounds_toArray, List.set_cons_succ, List.set_cons_zero]
            have g9 := hwx.below
            have hs9 := g9.size
            obtain ⟨wB, VB, ZB, KB, BB⟩ := lay8 wx [.int .i64 (TK + 1), .int .i64 (XK + 1)] 60
            have VB := (show wx.alloc (.cells #[.int .i64 (TK + 1), .int .i64 (XK + 1)] 60) = wB from VB)
            have KB := Lib.hid (show CellsAt wB wx.heap.size (KA.cs ⟨TK + 1, XK + 1⟩) from KB)
            have H9 := Lib.hid (below_up8 g9 BB)
            have hzB : C + 1 ≤ wB.heap.size := by omega
            have gB : Grew wa wB := by rw [← VB]; exact hwx.alloc _
            refine wpAnyK_fork1 14 (by kernel_rfl) ?_
            refine wpOpK_step rfl (by kernel_rfl) (listed' := #[true, true, true, true, true, true, true, true, true, true, true, true, true, true, true, false, false, false]) rfl (by kernel_rfl) (fun K hK => ?_)
            go_simp
            refine hK _ _ (gB) ?_
            clear hK K
            try simp only [Act.put, List.getElem_toArray, List.getElem_cons_succ, List.getElem_cons_zero, List.setIfInBounds_toArray, List.set_cons_succ, List.set_cons_zero]
            refine wpAnyK_end (by kernel_rfl) ?_
            try simp only [pickOps, List.filterMap_cons, List.filterMap_nil, List.getElem?_toArray, List.getElem?_cons_succ, List.getElem?_cons_zero]
            clear VB gB hwx g9
            refine walk_push8 KA (w0 := wB) rfl _ _ rfl (C + 1) (.slice aad LA.length acp) LA ⟨TK + 1, XK + 1⟩ rfl (HOW.out.below H9.out (Nat.le_refl _)) (Below.refl _ _) (by omega) wx.heap.size 1 rfl KB.out HLN.out ?_
            intro v8 w8 ho8 hb8 hg8 hk8
            have HC8 := Lib.hid ((HCL.out.below H9.out).up hb8 (by omega))
            obtain ⟨c80, c81⟩ := HC8.out 1 (by simp)
            simp only [List.getElem_cons_zero, List.getElem_cons_succ] at c80
            obtain ⟨ad8, cp8, e8, _⟩ := ho8.form
            generalize (LA ++ [(⟨TK + 1, XK + 1⟩ : An)]).length = L8 at e8
            subst e8
            have HO8 := Lib.hid ho8
            have HB8 := Lib.hid hb8
            clear ho8 hb8 hg8 hk8
            go_wp2_with fail
            refine NoPanic.normal ?_
            go_wp2_with fail
            go_meet
            exact ⟨_, Lib.hid ⟨HC8.out.put 1 _, HO8.out.far (fun e => by have := (HO8.out.ge _ e).1; omega), by have := HB8.out.size; simp; omega⟩, Lib.hid ((HBr.out.trans ((H9.out.mono (by omega)).trans (HB8.out.mono (by omega)))).setCell (Nat.le_refl _) _)⟩
          case rest =>
            obtain ⟨vn, HS2, HB2⟩ := hcut
            generalize wc = wb at *
            have HBwb := Lib.hid (show Below w.heap.size w wb from HB3.out.trans (HB2.out.mono (by have := HCC.out; omega)))
            clear HE2 HCL HOW HUP HBwa HBr hz9 w1 w2' HLN hlen hxb t0 t1
            have hkb : k < 24 := by have := HLK.out; omega
            go_wp2_with fail
            go_loopw [12] (fun i wr => ∃ q : Nat, i = .int .i64 q ∧ k < q ∧ q ≤ l.length ∧ Hid (∀ j, k < j → j < q → (evD l j).ag = (an : Int) ∧ shB (f.drOf (an : Int)) ((evD l j).tm - (evD l k).tm) (xD x k) (xD x j) = true) ∧ Hid (Below wb.heap.size wb wr)) (fun i _ => l.length - (RowKit.intOf i).toNat)
            case atStart => exact ⟨k + 1, by go_num, Nat.lt_succ_self _, HLK.out, Lib.hid (fun j h1 h2 => by omega), Lib.hid (Below.refl _ _)⟩
            case round =>
              obtain ⟨q, rfl, hkq, hq, HQ, HBq⟩ := hrel
              generalize wr = wq at *
              have HBwq := Lib.hid (below_up8 HBwb.out HBq.out)
              have HNEXT := Lib.hid (fun hend : q < l.length → (evD l q).ag ≠ (an : Int) => show ∃ k2 : Nat, Value.int .i64 ((k : Int) + 1) = .int .i64 k2 ∧ k2 ≤ l.length ∧ ∃ vv : Value, Hid (CellsAt wq C [.int .i64 D, vv] ∧ Own KA wq (C + 1) vv (anK8 l x (an : Int) k2) ∧ PairsK f l x (an : Int) k2 ∧ C + 1 ≤ wq.heap.size) ∧ Hid (Below C w3 wq) from
                ⟨k + 1, by go_num, HLK.out, vn, Lib.hid ⟨HS2.out.1.below HBq.out, by rw [HNX.out]; exact HS2.out.2.1.below HBq.out (Nat.le_refl _), pairsK_yes HFE.out HPR.out HAG.out HLK.out hkq HQ.out hend, by have := HBq.out.size; have := HS2.out.2.2; omega⟩, Lib.hid (HB2.out.trans (HBq.out.mono (by have := HS2.out.2.2; omega)))⟩)
              by_cases hlq : q < l.length
              · have hqq : (q : Int) < (l.length : Int) := by omega
                have HLQ := Lib.hid hlq
                have e0 := (HZC.out wq HBwq.out q hlq).1
                have ixq := HIX.out q hlq
                by_cases hag : (evD l q).ag = (an : Int)
                · have hne : ((evD l q).ag == (an : Int)) = true := by rw [hag]; exact beq_self_eq_true _
                  have HAQ := Lib.hid hag
                  have hev := HFE.out.2.2 k HLK.out
                  have hev2 := HFE.out.2.2 q hlq
                  obtain ⟨⟨ag0, ag5⟩, _, ⟨t0, t1⟩, _⟩ := evB_of hev.1
                  obtain ⟨_, _, ⟨u0, u1⟩, _⟩ := evB_of hev2.1
                  have hx1 := HXB.out k
                  have hx2 := HXB.out q
                  have hd := drOf_bd HFE.out.1 ag0 hev.2.1
                  have HSH := Lib.hid (fun W (b : Below w.heap.size w W) => CS.out W (HFA.out W b) (evD l k) (evD l q) (xD x k) (xD x q) ag0 hev.2.1 hd.1 hd.2 t0 t1 u0 u1 hx1.1 hx1.2 hx2.1 hx2.2)
                  have KA1 := Lib.hid (evD l k).val_mk
                  have KA2 := Lib.hid (evD l q).val_mk
                  obtain ⟨SH, hSH⟩ : ∃ SH, SH = shB (f.drOf (an : Int)) ((evD l q).tm - (evD l k).tm) (xD x k) (xD x q) := ⟨_, rfl⟩
                  have HSV := Lib.hid hSH
                  rw [HAG.out, ← hSH, KA1.out, KA2.out] at HSH
                  have HCE := Lib.hid (fun W (b : Below wq.heap.size wq W) => And.intro (HZC.out W (below_up8 HBwq.out b) k HLK.out) (And.intro (HZC.out W (below_up8 HBwq.out b) q hlq) (And.intro (HXQ.out W (below_up8 HBwq.out b) k HLK.out) (HXQ.out W (below_up8 HBwq.out b) q hlq))))
                  have HKF := Lib.hid (show ∀ W, Below wq.heap.size wq W → CellsAt W w.heap.size [.slice x1 f.dr.length c1, .int .i64 f.lat, .int .i64 f.lia, .slice x2 f.sv.length c3, .slice x3 f.tm.length c4] from fun W b => ((HK3.out.up HB2.out (by have := HCC.out; omega)).below HBq.out).below b)
                  have ixk := HIX.out k HLK.out
                  have iyk := HIY.out k (by rw [HXL.out]; exact HLK.out)
                  have iyq := HIY.out q (by rw [HXL.out]; exact hlq)
                  clear hev hev2 ag0 ag5 t0 t1 u0 u1 hx1 hx2 hd hSH KA1 KA2 hag hlq
                  obtain ⟨ek, hek⟩ : ∃ ek, ek = evD l k := ⟨_, rfl⟩
                  obtain ⟨eq, heq⟩ : ∃ eq, eq = evD l q := ⟨_, rfl⟩
                  obtain ⟨xk, hxk⟩ : ∃ xk, xk = xD x k := ⟨_, rfl⟩
                  obtain ⟨xq, hxq⟩ : ∃ xq, xq = xD x q := ⟨_, rfl⟩
                  rw [← hek, ← heq, ← hxk, ← hxq] at HSH
                  rw [← hek, ← heq, ← hxk, ← hxq] at HCE
                  rw [← heq] at e0 hne
                  clear hek heq hxk hxq
                  go_upto_region 12 with fail
                  go_cut [13] from 89 to 106 (fun s13 wx => s13 = .bool SH ∧ Hid (Below wq.heap.size wq wx))
                  case first =>
                    skip
                    have f0 := fun d os => (show (grow (redrawn wq d) os).cell? ⟨w.heap.size, 0, none⟩ = some (.slice x1 f.dr.length c1) from (HKF.out _ (below_regrown wq d os) 0 (by simp)).1)
                    have f1 := fun d os => (show (grow (redrawn wq d) os).cell? ⟨w.heap.size, 1, none⟩ = some (.int .i64 f.lat) from (HKF.out _ (below_regrown wq d os) 1 (by simp)).1)
                    have f2 := fun d os => (show (grow (redrawn wq d) os).cell? ⟨w.heap.size, 2, none⟩ = some (.int .i64 f.lia) from (HKF.out _ (below_regrown wq d os) 2 (by simp)).1)
                    have f3 := fun d os => (show (grow (redrawn wq d) os).cell? ⟨w.heap.size, 3, none⟩ = some (.slice x2 f.sv.length c3) from (HKF.out _ (below_regrown wq d os) 3 (by simp)).1)
                    have f4 := fun d os => (show (grow (redrawn wq d) os).cell? ⟨w.heap.size, 4, none⟩ = some (.slice x3 f.tm.length c4) from (HKF.out _ (below_regrown wq d os) 4 (by simp)).1)
                    have a0 := fun d os => (HCE.out _ (below_regrown wq d os)).1.1
                    have b0 := fun d os => (HCE.out _ (below_regrown wq d os)).2.1.1
                    have a1 := fun d os => (HCE.out _ (below_regrown wq d os)).1.2.1
                    have b1 := fun d os => (HCE.out _ (below_regrown wq d os)).2.1.2.1
                    have a2 := fun d os => (HCE.out _ (below_regrown wq d os)).1.2.2.1
                    have b2 := fun d os => (HCE.out _ (below_regrown wq d os)).2.1.2.2.1
                    have a3 := fun d os => (HCE.out _ (below_regrown wq d os)).1.2.2.2.1
                    have b3 := fun d os => (HCE.out _ (below_regrown wq d os)).2.1.2.2.2.1
                    have a4 := fun d os => (HCE.out _ (below_regrown wq d os)).1.2.2.2.2.1
                    have b4 := fun d os => (HCE.out _ (below_regrown wq d os)).2.1.2.2.2.2.1
                    have a5 := fun d os => (HCE.out _ (below_regrown wq d os)).1.2.2.2.2.2.1
                    have b5 := fun d os => (HCE.out _ (below_regrown wq d os)).2.1.2.2.2.2.2.1
                    have a6 := fun d os => (HCE.out _ (below_regrown wq d os)).1.2.2.2.2.2.2.1
                    have b6 := fun d os => (HCE.out _ (below_regrown wq d os)).2.1.2.2.2.2.2.2.1
                    have a7 := fun d os => (HCE.out _ (below_regrown wq d os)).1.2.2.2.2.2.2.2.1
                    have b7 := fun d os => (HCE.out _ (below_regrown wq d os)).2.1.2.2.2.2.2.2.2.1
                    have a8 := fun d os => (HCE.out _ (below_regrown wq d os)).1.2.2.2.2.2.2.2.2.1
                    have b8 := fun d os => (HCE.out _ (below_regrown wq d os)).2.1.2.2.2.2.2.2.2.2.1
                    have a9 := fun d os => (HCE.out _ (below_regrown wq d os)).1.2.2.2.2.2.2.2.2.2.1
                    have b9 := fun d os => (HCE.out _ (below_regrown wq d os)).2.1.2.2.2.2.2.2.2.2.2.1
                    have a10 := fun d os => (HCE.out _ (below_regrown wq d os)).1.2.2.2.2.2.2.2.2.2.2.1
                    have b10 := fun d os => (HCE.out _ (below_regrown wq d os)).2.1.2.2.2.2.2.2.2.2.2.2.1
                    have a11 := fun d os => (HCE.out _ (below_regrown wq d os)).1.2.2.2.2.2.2.2.2.2.2.2
                    have b11 := fun d os => (HCE.out _ (below_regrown wq d os)).2.1.2.2.2.2.2.2.2.2.2.2.2
                    have xk1 := fun d os => (HCE.out _ (below_regrown wq d os)).2.2.1
                    have xq1 := fun d os => (HCE.out _ (below_regrown wq d os)).2.2.2
                    refine wp_region_quiet_below (by kernel_rfl) (by kernel_rfl) ?_
                    repeat (first | go_big_quiet_step ((first | fail | (go_at_call 53; exact Calls.regrown_of (HSH.out _ (below_up8 HBwq.out (below_regrown _ _ _)))))) | quiet_step ((first | fail | (go_at_call 53; exact Calls.regrown_of (HSH.out _ (below_up8 HBwq.out (below_regrown _ _ _)))))))
                    refine wpQuiet_nil ?_
                    intro _ hw'
                    obtain ⟨⟨dq, osq⟩, hw''⟩ := hw'
                    subst hw''
                    go_wp2_with fail
                    go_meet
                    exact ⟨rfl, Lib.hid (below_regrown _ _ _)⟩
                  case rest =>
                    obtain ⟨rfl, HBx⟩ := hcut
                    generalize wc = wz at *
                    have HBqz := Lib.hid (below_up8 HBq.out HBx.out)
                    have HBwz := Lib.hid (below_up8 HBwq.out HBx.out)
                    cases SH with
                    | true =>
                      go_wp2_with fail
                      go_roundw
                      case rel => exact ⟨q + 1, by go_num, by omega, HLQ.out, Lib.hid (fun j h1 h2 => by
                        rcases Nat.lt_or_ge j q with h9 | h9
                        · exact HQ.out j h1 h9
                        · obtain rfl : j = q := by omega
                          exact ⟨HAQ.out, HSV.out.symm⟩), HBqz⟩
                      case measure => have h9 := HLQ.out; simp [RowKit.intOf]; omega
                    | false =>
                      have HBAD := Lib.hid (show ¬ FdOk f l x (an : Int) from fun h => by
                        have := h.2.2.2.2.2 k q hkq HLQ.out HAG.out HAQ.out
                        rw [← HSV.out] at this
                        cases this)
                      have HRz := Lib.hid (show CellsAt wz (w.heap.size + 1) [.int .i64 0, .slice none 0 0] from (HR3.out.up HB2.out (by have := HCC.out; omega)).below HBqz.out)
                      have HF := Lib.hid (HNO.out HBAD.out)
                      obtain ⟨z00, z01⟩ := HRz.out 0 (by simp); obtain ⟨z10, z11⟩ := HRz.out 1 (by simp)
                      simp only [List.getElem_cons_zero, List.getElem_cons_succ] at z00 z01 z10 z11
                      have HKZ := Lib.hid (((HRz.out).put 0 (.int .i64 0)).put 1 (.slice none 0 0))
                      have HBZ := Lib.hid (((HBwz.out).setCell (p := ⟨w.heap.size + 1, 0, none⟩) (Nat.le_succ _) (.int .i64 0)).setCell (p := ⟨w.heap.size + 1, 1, none⟩) (Nat.le_succ _) (.slice none 0 0))
                      go_wp2_with fail
                      obtain ⟨WF, hWF⟩ : ∃ WF, WF = ((wz.setCell ⟨w.heap.size + 1, 0, none⟩ (.int .i64 0)).setCell ⟨w.heap.size + 1, 1, none⟩ (.slice none 0 0)) := ⟨_, rfl⟩
                      rw [← hWF] at HKZ HBZ ⊢
                      clear z00 z01 z10 z11 hWF
                      obtain ⟨g0, _⟩ := HKZ.out 0 (by simp); obtain ⟨g1, _⟩ := HKZ.out 1 (by simp)
                      simp only [List.set_cons_zero, List.set_cons_succ, List.getElem_cons_zero, List.getElem_cons_succ] at g0 g1
                      exact bodyPost_ret (v := .tuple #[.agg #[.int .i64 0, .slice none 0 0], .int .i64 80]) (by simp [results, Tryd.results32, go_sem, g0, g1]) rfl
                        ⟨none, 0, by rw [HF.out.1, HF.out.2]; rfl, by rw [HF.out.1]; exact Nat.le_refl _, by rw [HF.out.1]; exact .inl rfl, HBZ.out⟩
                · have hne : ((evD l q).ag == (an : Int)) = false := by rw [beq_eq_false_iff_ne]; exact hag
                  have HEND := Lib.hid (HNEXT.out (fun _ => hag))
                  clear hag hlq
                  go_wp2_with fail
                  go_roundw
                  case rel => exact HEND.out
                  case measure => have h9 := HLK.out; simp [RowKit.intOf]; omega
              · have hqq : ¬ (q : Int) < (l.length : Int) := by omega
                have HEND := Lib.hid (HNEXT.out (fun h => absurd h hlq))
                clear hlq
                go_wp2_with fail
                go_roundw
                case rel => exact HEND.out
                case measure => have h9 := HLK.out; simp [RowKit.intOf]; omega
        · have hne : ((evD l k).ag != (an : Int)) = true := by rw [bne_iff_ne]; exact hag
          have HEND := Lib.hid (show ∃ k2 : Nat, Value.int .i64 ((k : Int) + 1) = .int .i64 k2 ∧ k2 ≤ l.length ∧ ∃ vv : Value, Hid (CellsAt wa C [.int .i64 D, vv] ∧ Own KA wa (C + 1) vv (anK8 l x (an : Int) k2) ∧ PairsK f l x (an : Int) k2 ∧ C + 1 ≤ wa.heap.size) ∧ Hid (Below C w3 wa) from
            ⟨k + 1, by go_num, hlk, vv, Lib.hid ⟨HS.out.1, by rw [anK8_no hag]; exact HS.out.2.1, pairsK_no HS.out.2.2.1 hag, HS.out.2.2.2⟩, HBr⟩)
          clear hag hlk
          go_wp2_with fail
          go_roundw
          case rel => exact HEND.out
          case measure => have h9 := HLK.out; simp [RowKit.intOf]; omega
      · have hkk : ¬ (k : Int) < (l.length : Int) := by omega
        obtain rfl : k = l.length := by omega
        obtain ⟨s1, s2, s3, s4⟩ := HS.out
        obtain ⟨aad, acp, ea, hcp⟩ := s2.form
        obtain ⟨LA, hLA⟩ : ∃ LA, LA = anK8 l x (an : Int) l.length := ⟨_, rfl⟩
        rw [← hLA] at s2 ea HYES hcp
        subst ea
        have hlen : LA.length ≤ 24 := by have := anK8_len l x (an : Int) l.length; rw [← hLA] at this; omega
        have HRL := Lib.hid (show RN KA wa (C + 1) aad LA from by
          obtain ⟨a2, c2', e2, _, h⟩ := s2.rn
          injection e2 with e2 e3 e4
          rw [e2]; exact h)
        have HCK := Lib.hid (fun W (b : Below wa.heap.size wa W) => validClockR_any (.agg #[.int .i64 D, .slice aad LA.length acp]) ⟨D, LA⟩ W ⟨aad, acp, rfl, HRL.out.rl.below b⟩ (by show LA.length ≤ maxLen; unfold maxLen; omega))
        have g0 := (show wa.cell? ⟨C, 0, none⟩ = some (.int .i64 D) from (s1 0 (by simp)).1)
        have g1 := (show wa.cell? ⟨C, 1, none⟩ = some (.slice aad LA.length acp) from (s1 1 (by simp)).1)
        have HCLS := Lib.hid s1
        have HPAIR := Lib.hid s3
        have HRa := Lib.hid (show CellsAt wa (w.heap.size + 1) [.int .i64 0, .slice none 0 0] from HR3.out.up HBr.out (by have := HCC.out; omega))
        obtain ⟨CK, hCK⟩ : ∃ CK, CK = ckB ⟨D, LA⟩ := ⟨_, rfl⟩
        rw [← hCK] at HCK
        have HCKV := Lib.hid hCK
        have HLAV := Lib.hid hLA
        clear s1 s2 s3 s4 hLA hCK hlk hlen HS
        go_wp2_with fail
        refine (HCK.out _ (Below.refl _ _)).mono ?_
        rintro e wv ⟨rfl, hb⟩
        have HBv := Lib.hid hb
        have HBwv := Lib.hid (below_up8 HBwa.out hb)
        have HRv := Lib.hid (HRa.out.below hb)
        clear hb g0 g1
        cases CK with
        | false =>
          have HBAD := Lib.hid (show ¬ FdOk f l x (an : Int) from fun h => by
            have := h.2.2.2.2.1
            rw [show fdC f l x (an : Int) = ⟨D, LA⟩ from by rw [HD.out, HLAV.out]; rfl, ← HCKV.out] at this
            cases this)
          have HF := Lib.hid (HNO.out HBAD.out)
          obtain ⟨z00, z01⟩ := HRv.out 0 (by simp); obtain ⟨z10, z11⟩ := HRv.out 1 (by simp)
          simp only [List.getElem_cons_zero, List.getElem_cons_succ] at z00 z01 z10 z11
          have HKZ := Lib.hid (((HRv.out).put 0 (.int .i64 0)).put 1 (.slice none 0 0))
          have HBZ := Lib.hid (((HBwv.out).setCell (p := ⟨w.heap.size + 1, 0, none⟩) (Nat.le_succ _) (.int .i64 0)).setCell (p := ⟨w.heap.size + 1, 1, none⟩) (Nat.le_succ _) (.slice none 0 0))
          go_wp2_with fail
          obtain ⟨WF, hWF⟩ : ∃ WF, WF = ((wv.setCell ⟨w.heap.size + 1, 0, none⟩ (.int .i64 0)).setCell ⟨w.heap.size + 1, 1, none⟩ (.slice none 0 0)) := ⟨_, rfl⟩
          rw [← hWF] at HKZ HBZ ⊢
          clear z00 z01 z10 z11 hWF
          obtain ⟨g0, _⟩ := HKZ.out 0 (by simp); obtain ⟨g1, _⟩ := HKZ.out 1 (by simp)
          simp only [List.set_cons_zero, List.set_cons_succ, List.getElem_cons_zero, List.getElem_cons_succ] at g0 g1
          exact bodyPost_ret (v := .tuple #[.agg #[.int .i64 0, .slice none 0 0], .int .i64 80]) (by simp [results, Tryd.results32, go_sem, g0, g1]) rfl
            ⟨none, 0, by rw [HF.out.1, HF.out.2]; rfl, by rw [HF.out.1]; exact Nat.le_refl _, by rw [HF.out.1]; exact .inl rfl, HBZ.out⟩
        | true =>
          have HYY := Lib.hid (HYES.out HAB.out.1 HAB.out.2 HPAIR.out (by rw [← HD.out]; exact HCKV.out.symm))
          rw [← HD.out] at HYY
          have g0 := (show wv.cell? ⟨C, 0, none⟩ = some (.int .i64 D) from (HCLS.out.below HBv.out 0 (by simp)).1)
          have g1 := (show wv.cell? ⟨C, 1, none⟩ = some (.slice aad LA.length acp) from (HCLS.out.below HBv.out 1 (by simp)).1)
          obtain ⟨z00, z01⟩ := HRv.out 0 (by simp); obtain ⟨z10, z11⟩ := HRv.out 1 (by simp)
          simp only [List.getElem_cons_zero, List.getElem_cons_succ] at z00 z01 z10 z11
          have HKZ := Lib.hid ((HRv.out.put 0 (.int .i64 D)).put 1 (.slice aad LA.length acp))
          have HBZ := Lib.hid ((HBwv.out.setCell (p := ⟨w.heap.size + 1, 0, none⟩) (Nat.le_succ _) (.int .i64 D)).setCell (p := ⟨w.heap.size + 1, 1, none⟩) (Nat.le_succ _) (.slice aad LA.length acp))
          have HRZ := Lib.hid (show RN KA ((wv.setCell ⟨w.heap.size + 1, 0, none⟩ (.int .i64 D)).setCell ⟨w.heap.size + 1, 1, none⟩ (.slice aad LA.length acp)) w.heap.size aad LA from ((((HRL.out.below HBv.out).far (by have := HCC.out; omega)).far (by have := HCC.out; omega)).base (by have := HCC.out; omega)))
          go_wp2_with fail
          obtain ⟨WF, hWF⟩ : ∃ WF, WF = ((wv.setCell ⟨w.heap.size + 1, 0, none⟩ (.int .i64 D)).setCell ⟨w.heap.size + 1, 1, none⟩ (.slice aad LA.length acp)) := ⟨_, rfl⟩
          rw [← hWF] at HKZ HBZ HRZ ⊢
          clear z00 z01 z10 z11 g0 g1 hWF
          obtain ⟨g0, _⟩ := HKZ.out 0 (by simp); obtain ⟨g1, _⟩ := HKZ.out 1 (by simp)
          simp only [List.set_cons_zero, List.set_cons_succ, List.getElem_cons_zero, List.getElem_cons_succ] at g0 g1
          exact bodyPost_ret (v := .tuple #[.agg #[.int .i64 D, .slice aad LA.length acp], .int .i64 0]) (by simp [results, Tryd.results32, go_sem, g0, g1]) rfl
            ⟨aad, acp, by rw [HYY.out.1, HYY.out.2], by rw [HYY.out.1]; exact hcp, by rw [HYY.out.1]; exact HRZ.out, HBZ.out⟩
end Go.Proofs.YtamefmojocegkaaDoor
