/-
  Layer 8, the program: Find.
-/
import Derived.Test.YtifdcfjllonmgaaDoorNt0
namespace Go.Proofs.YtifdcfjllonmgaaDoor
open Go Go.Proofs Go.RowKit Go.Lib

set_option maxRecDepth 100000 in
set_option maxHeartbeats 16000000 in
theorem findP_u (v : Value) (f : Fl) (ad ad2 : Option Addr) (c c2 : Nat) (l : List Ev) (x : List Int) (a : Int) (w : World) (hfit : f.fit) (hl : l.length ≤ maxLen) (hx : x.length ≤ maxLen) (hw : evsW l) (hR : Rdy w) (hf : FlAt w v f) (hI : RL KE w ad l) (hJ : RL KI w ad2 x) :
    Calls Tryd.prog 31 #[v, .slice ad l.length c, .slice ad2 x.length c2, .int .i64 a] w (FindPost w (fdV f l x a) (fdE f l x a)) := by
  have HFA := Lib.hid (fun W (b : Below w.heap.size w W) => hf.below b)
  have HIA := Lib.hid (fun W (b : Below w.heap.size w W) => hI.below b)
  have HJA := Lib.hid (fun W (b : Below w.heap.size w W) => hJ.below b)
  have HRD := Lib.hid (fun W (b : Below w.heap.size w W) => hR.below b)
  obtain ⟨x1, c1, x2, c3, x3, c4, rfl, hdr, _, _⟩ := hf
  have CE := Lib.hid (fun W h1 h2 h3 => events_u (.agg #[.slice x1 f.dr.length c1, .int .i64 f.lat, .int .i64 f.lia, .slice x2 f.sv.length c3, .slice x3 f.tm.length c4]) f ad c l hfit hl hw W h1 h2 h3)
  have CT := Lib.hid (fun W h => areTimes_u ad l.length c x ad2 c2 W hx h)
  have CR := Lib.hid (fun W h1 h2 => rules_u (.agg #[.slice x1 f.dr.length c1, .int .i64 f.lat, .int .i64 f.lia, .slice x2 f.sv.length c3, .slice x3 f.tm.length c4]) f W h1 h2)
  have CI := Lib.hid (fun W => isIn_u a 0 ((f.dr.length : Int) - 1) W)
  obtain ⟨fit1, _, _⟩ := hfit
  obtain ⟨w1, V1, Z1, K1, B1⟩ := lay8 w [.slice x1 f.dr.length c1, .int .i64 f.lat, .int .i64 f.lia, .slice x2 f.sv.length c3, .slice x3 f.tm.length c4] 24
  obtain ⟨w2, V2, Z2, K2, B2⟩ := lay8 w1 [.int .i64 0, .slice none 0 0] 50
  rw [Z1] at Z2 K2 B2
  have K1 := K1.up B2 (by omega)
  have HB2 := Lib.hid (show Below w.heap.size w w2 from B1.trans (B2.mono (by omega)))
  have HKX := Lib.hid (show ∀ W, Below (w.heap.size + 2) w2 W → W.cell? ⟨w.heap.size, 0, none⟩ = some (.slice x1 f.dr.length c1) ∧ W.cell? ⟨w.heap.size, 1, none⟩ = some (.int .i64 f.lat) ∧ W.cell? ⟨w.heap.size, 2, none⟩ = some (.int .i64 f.lia) ∧ W.cell? ⟨w.heap.size, 3, none⟩ = some (.slice x2 f.sv.length c3) ∧ W.cell? ⟨w.heap.size, 4, none⟩ = some (.slice x3 f.tm.length c4) from fun W b => ⟨(K1.up b (by omega) 0 (by simp)).1, (K1.up b (by omega) 1 (by simp)).1, (K1.up b (by omega) 2 (by simp)).1, (K1.up b (by omega) 3 (by simp)).1, (K1.up b (by omega) 4 (by simp)).1⟩)
  have HRS := Lib.hid (show ∀ W, Below (w.heap.size + 2) w2 W → CellsAt W (w.heap.size + 1) [.int .i64 0, .slice none 0 0] from fun W b => K2.up b (by omega))
  have HU2 := Lib.hid (show Below (w.heap.size + 2) w2 w2 from Below.refl _ _)
  obtain ⟨y0, y1, y2, y3, y4⟩ := HKX.out w2 HU2.out
  have HNO := Lib.hid (show fdB f l x a = false → ∀ W, Below w.heap.size w W → FindPost w (fdV f l x a) (fdE f l x a) (.returned (.tuple #[.agg #[.int .i64 0, .slice none 0 0], .int .i64 80])) W from fun h W b => by
    unfold fdV fdE
    rw [h, if_neg (by decide), if_neg (by decide)]
    exact ⟨none, 0, rfl, Nat.le_refl _, .inl rfl, b⟩)
  have HN1 := Lib.hid (fun h : ¬ FdOk f l x a => fdB_no h)
  clear hI hJ hR K1 K2 B1 B2 hw
  cases he : evsB f l with
  | false =>
    have HP := Lib.hid (HNO.out (HN1.out (fun h => by rw [h.1] at he; cases he)))
    rw [he] at CE
    clear he HNO HN1
    go_enter Tryd.func31, Tryd.ntmps31
    go_upto_region 2 with (first | (go_at_call 18; refine (CE.out _ (HRD.out _ HB2.out) (HFA.out _ HB2.out) (HIA.out _ HB2.out)).mono ?_; rintro e w3 ⟨rfl, hb⟩; have HU3 := Lib.hid (show Below (w.heap.size + 2) w2 w3 from hb.mono (by omega)); have HB3 := Lib.hid (HB2.out.trans (hb.mono HB2.out.size)); clear hb y0 y1 y2 y3 y4; obtain ⟨y0, y1, y2, y3, y4⟩ := HKX.out w3 HU3.out))
    have KR := HRS.out w3 HU3.out
    obtain ⟨p0, p0'⟩ := KR 0 (by simp); obtain ⟨p1, p1'⟩ := KR 1 (by simp)
    simp only [List.getElem_cons_zero, List.getElem_cons_succ] at p0 p1
    obtain ⟨wz, VZ, KZ, BZ⟩ : ∃ wz, (w3.setCell ⟨w.heap.size + 1, 0, none⟩ (.int .i64 0)).setCell ⟨w.heap.size + 1, 1, none⟩ (.slice none 0 0) = wz ∧ CellsAt wz (w.heap.size + 1) [.int .i64 0, .slice none 0 0] ∧ Below w.heap.size w wz := ⟨_, rfl, (KR.put 0 _).put 1 _, (HB3.out.setCell (p := ⟨w.heap.size + 1, 0, none⟩) (by show _ ≤ _ + 1; omega) _).setCell (p := ⟨w.heap.size + 1, 1, none⟩) (by show _ ≤ _ + 1; omega) _⟩
    have k0 := (KZ 0 (by simp)).1; have k1 := (KZ 1 (by simp)).1
    simp only [List.getElem_cons_zero, List.getElem_cons_succ] at k0 k1
    have HPZ := Lib.hid (HP.out wz BZ)
    clear KR KZ BZ
    go_wp2_with fail
    exact bodyPost_ret (v := .tuple #[.agg #[.int .i64 0, .slice none 0 0], .int .i64 80]) (by simp [results, Tryd.results31, go_sem, k0, k1]) rfl HPZ.out
  | true =>
    cases hin : inB a 0 ((f.dr.length : Int) - 1) with
    | false =>
      have HP := Lib.hid (HNO.out (HN1.out (fun h => by have h1 := h.2.2.1; have h2 := h.2.2.2.1; have := inB_yes (hi := (f.dr.length : Int) - 1) h1 (by omega); rw [hin] at this; cases this)))
      rw [he] at CE
      rw [hin] at CI
      clear he hin HNO HN1
      go_enter Tryd.func31, Tryd.ntmps31
      go_upto_region 2 with (first | (go_at_call 18; refine (CE.out _ (HRD.out _ HB2.out) (HFA.out _ HB2.out) (HIA.out _ HB2.out)).mono ?_; rintro e w3 ⟨rfl, hb⟩; have HU3 := Lib.hid (show Below (w.heap.size + 2) w2 w3 from hb.mono (by omega)); have HB3 := Lib.hid (HB2.out.trans (hb.mono HB2.out.size)); clear hb y0 y1 y2 y3 y4; obtain ⟨y0, y1, y2, y3, y4⟩ := HKX.out w3 HU3.out) | (go_at_call 40; refine (CI.out _).mono ?_; rintro e z ⟨rfl, hz⟩; subst z))
      have KR := HRS.out w3 HU3.out
      obtain ⟨p0, p0'⟩ := KR 0 (by simp); obtain ⟨p1, p1'⟩ := KR 1 (by simp)
      simp only [List.getElem_cons_zero, List.getElem_cons_succ] at p0 p1
      obtain ⟨wz, VZ, KZ, BZ⟩ : ∃ wz, (w3.setCell ⟨w.heap.size + 1, 0, none⟩ (.int .i64 0)).setCell ⟨w.heap.size + 1, 1, none⟩ (.slice none 0 0) = wz ∧ CellsAt wz (w.heap.size + 1) [.int .i64 0, .slice none 0 0] ∧ Below w.heap.size w wz := ⟨_, rfl, (KR.put 0 _).put 1 _, (HB3.out.setCell (p := ⟨w.heap.size + 1, 0, none⟩) (by show _ ≤ _ + 1; omega) _).setCell (p := ⟨w.heap.size + 1, 1, none⟩) (by show _ ≤ _ + 1; omega) _⟩
      have k0 := (KZ 0 (by simp)).1; have k1 := (KZ 1 (by simp)).1
      simp only [List.getElem_cons_zero, List.getElem_cons_succ] at k0 k1
      have HPZ := Lib.hid (HP.out wz BZ)
      clear KR KZ BZ
      go_wp2_with fail
      exact bodyPost_ret (v := .tuple #[.agg #[.int .i64 0, .slice none 0 0], .int .i64 80]) (by simp [results, Tryd.results31, go_sem, k0, k1]) rfl HPZ.out
    | true =>
      cases ht : timesB l.length x with
      | false =>
        have HP := Lib.hid (HNO.out (HN1.out (fun h => by rw [h.2.1] at ht; cases ht)))
        rw [he] at CE
        rw [hin] at CI
        rw [ht] at CT
        clear he hin ht HNO HN1
        go_enter Tryd.func31, Tryd.ntmps31
        go_upto_region 2 with (first | (go_at_call 18; refine (CE.out _ (HRD.out _ HB2.out) (HFA.out _ HB2.out) (HIA.out _ HB2.out)).mono ?_; rintro e w3 ⟨rfl, hb⟩; have HU3 := Lib.hid (show Below (w.heap.size + 2) w2 w3 from hb.mono (by omega)); have HB3 := Lib.hid (HB2.out.trans (hb.mono HB2.out.size)); clear hb y0 y1 y2 y3 y4; obtain ⟨y0, y1, y2, y3, y4⟩ := HKX.out w3 HU3.out) | (go_at_call 40; refine (CI.out _).mono ?_; rintro e z ⟨rfl, hz⟩; subst z) | (go_at_call 50; refine (CT.out _ (HJA.out _ HB3.out)).mono ?_; rintro e w4 ⟨rfl, hb⟩; have HU4 := Lib.hid (show Below (w.heap.size + 2) w2 w4 from HU3.out.trans (hb.mono (by have := HU3.out.size; omega))); have HB4 := Lib.hid (HB3.out.trans (hb.mono HB3.out.size)); clear hb y0 y1 y2 y3 y4; obtain ⟨y0, y1, y2, y3, y4⟩ := HKX.out w4 HU4.out))
        have KR := HRS.out w4 HU4.out
        obtain ⟨p0, p0'⟩ := KR 0 (by simp); obtain ⟨p1, p1'⟩ := KR 1 (by simp)
        simp only [List.getElem_cons_zero, List.getElem_cons_succ] at p0 p1
        obtain ⟨wz, VZ, KZ, BZ⟩ : ∃ wz, (w4.setCell ⟨w.heap.size + 1, 0, none⟩ (.int .i64 0)).setCell ⟨w.heap.size + 1, 1, none⟩ (.slice none 0 0) = wz ∧ CellsAt wz (w.heap.size + 1) [.int .i64 0, .slice none 0 0] ∧ Below w.heap.size w wz := ⟨_, rfl, (KR.put 0 _).put 1 _, (HB4.out.setCell (p := ⟨w.heap.size + 1, 0, none⟩) (by show _ ≤ _ + 1; omega) _).setCell (p := ⟨w.heap.size + 1, 1, none⟩) (by show _ ≤ _ + 1; omega) _⟩
        have k0 := (KZ 0 (by simp)).1; have k1 := (KZ 1 (by simp)).1
        simp only [List.getElem_cons_zero, List.getElem_cons_succ] at k0 k1
        have HPZ := Lib.hid (HP.out wz BZ)
        clear KR KZ BZ
        go_wp2_with fail
        exact bodyPost_ret (v := .tuple #[.agg #[.int .i64 0, .slice none 0 0], .int .i64 80]) (by simp [results, Tryd.results31, go_sem, k0, k1]) rfl HPZ.out
      | true =>
        obtain ⟨a0, a1⟩ := of_inB hin
        have HE := of_evsB he
        obtain ⟨⟨_, d6⟩, _⟩ := flB_of HE.1
        have HFD := Lib.hid (fd_iff he ht a0 (by omega))
        have HC := Lib.hid (fun rs g cr W h1 h2 h3 => constraints_u he [s0S f] (fun s hs => by simp at hs; subst hs; simp [rlS]) (show (1 : Nat) ≤ 8 by decide) rs g cr ad c W h1 h2 h3)
        have HFL := Lib.hid HE.1
        have HTM := Lib.hid (timesB_of ht).1
        have HXL := (timesB_of ht).2
        have HL24 := Lib.hid HE.2.1
        have HAG := Lib.hid (fun ad' c' W h1 h2 => agree_u (conW [s0S f] l) ad' c' x ad2 c2 ((2 : Int) ^ a.toNat) W (conW_le _ _ (show (1 : Nat) ≤ 8 by decide) HE.2.1) h1 h2 (fun y hy => by rw [HXL]; exact con0_okx he y hy) (timesB_of ht).1)
        have HYES := Lib.hid (show fdB f l x a = true → ∀ W ad' c', (fdAn l x a).length ≤ c' → RN KA W w.heap.size ad' (fdAn l x a) → Below w.heap.size w W → FindPost w (fdV f l x a) (fdE f l x a) (.returned (.tuple #[.agg #[.int .i64 (f.drOf a), .slice ad' (fdAn l x a).length c'], .int .i64 0])) W from fun h W ad' c' h1 h2 b => by
          unfold fdV fdE
          rw [h, if_pos rfl, if_pos rfl]
          exact ⟨ad', c', rfl, h1, h2, b⟩)
        have HCK := Lib.hid (fun W ad' cp (h1 : RL KA W ad' (fdAn l x a)) (h2 : (fdAn l x a).length ≤ maxLen) => validClock_u (.agg #[.int .i64 (f.drOf a), .slice ad' (fdAn l x a).length cp]) (fdC f l x a) W ⟨ad', cp, rfl, h1⟩ h2)
        have HBE := Lib.hid (fun k (hk : k < l.length) => (⟨(evB_of (HE.2.2 k hk).1).2.2.1, timesB_of ht |>.1 k⟩ : _ ∧ _))
        have HFK0 := Lib.hid (show fdK l x a 0 = [] from rfl); have HFKS := Lib.hid (fun k => fdK_step l x a k); have HFKL := Lib.hid (fun k => fdK_le l x a k)
        have HFKA := Lib.hid (fdK_all l x a)
        have HXL2 := Lib.hid HXL
        obtain ⟨q, hq⟩ := Int.eq_ofNat_of_zero_le a0
        have hql : q < f.dr.length := by omega
        obtain ⟨db, do_, rfl, hdb, hdc⟩ := hdr.ints8 (by omega)
        have hdq : xD f.dr q = f.drOf a := by unfold xD Fl.drOf; rw [hq]; rfl
        have HDC := Lib.hid (show ∀ W, Below w.heap.size w W → W.cell? ⟨db, do_ + q, none⟩ = some (.int .i64 (f.drOf a)) from fun W b => by rw [← hdq]; exact hdc q hql W b)
        have hiq := fun W => at_int8 db do_ f.dr.length c1 q hql W
        obtain ⟨MA, hMA⟩ : ∃ MA, (2 : Int) ^ a.toNat = MA := ⟨_, rfl⟩
        obtain ⟨ma0, ma1⟩ : 1 ≤ MA ∧ MA ≤ 32 := by rw [← hMA]; exact pow8 _ (by omega)
        have HMQ := Lib.hid (show IntKind.i64.wrap ((2 : Int) ^ q) = MA by rw [hq, Int.toNat_natCast] at hMA; rw [hMA]; exact IntWalk.i64_in _ (by omega))
        rw [hMA] at HFD HAG
        rw [he] at CE
        rw [hin] at CI
        rw [ht] at CT
        clear he hin ht HE HN1 HXL hdc hdb hdq
        generalize f.drOf a = D at *
        generalize fdAn l x a = AN at *
        generalize fdB f l x a = FB at *
        generalize ckB (fdC f l x a) = CB at *
        generalize conW [s0S f] l = CL at *
        generalize (CL.any (brkB MA x)) = QB at *
        subst hq
        go_enter Tryd.func31, Tryd.ntmps31
        go_upto_region 3 with (first | (go_at_call 18; refine (CE.out _ (HRD.out _ HB2.out) (HFA.out _ HB2.out) (HIA.out _ HB2.out)).mono ?_; rintro e w3 ⟨rfl, hb⟩; have HU3 := Lib.hid (show Below (w.heap.size + 2) w2 w3 from hb.mono (by omega)); have HB3 := Lib.hid (HB2.out.trans (hb.mono HB2.out.size)); clear hb y0 y1 y2 y3 y4; obtain ⟨y0, y1, y2, y3, y4⟩ := HKX.out w3 HU3.out) | (go_at_call 40; refine (CI.out _).mono ?_; rintro e z ⟨rfl, hz⟩; subst z) | (go_at_call 50; refine (CT.out _ (HJA.out _ HB3.out)).mono ?_; rintro e w4 ⟨rfl, hb⟩; have HU4 := Lib.hid (show Below (w.heap.size + 2) w2 w4 from HU3.out.trans (hb.mono (by have := HU3.out.size; omega))); have HB4 := Lib.hid (HB3.out.trans (hb.mono HB3.out.size)); clear hb y0 y1 y2 y3 y4; obtain ⟨y0, y1, y2, y3, y4⟩ := HKX.out w4 HU4.out))
        have z0 := HDC.out w4 HB4.out
        obtain ⟨w5, V5, Z5, K5, B5⟩ := lay8 w4 [.int .i64 0, .slice none 0 0] 50
        obtain ⟨g0, g0'⟩ := K5 0 (by simp); obtain ⟨g1, g1'⟩ := K5 1 (by simp)
        simp only [List.getElem_cons_zero, List.getElem_cons_succ] at g0 g1
        obtain ⟨C, hC⟩ : ∃ C, w4.heap.size = C := ⟨_, rfl⟩
        rw [hC] at K5 Z5 g0 g0' g1 g1'
        obtain ⟨w6, V6, K6, B6, S6⟩ : ∃ w6, (w5.setCell ⟨w4.heap.size, 0, none⟩ (.int .i64 D)).setCell ⟨w4.heap.size, 1, none⟩ (.slice none 0 0) = w6 ∧ CellsAt w6 C [.int .i64 D, .slice none 0 0] ∧ Below w4.heap.size w4 w6 ∧ w6.heap.size = C + 1 :=
          ⟨_, rfl, by rw [hC]; exact (K5.put 0 _).put 1 _, (B5.setCell (Nat.le_refl _) _).setCell (Nat.le_refl _) _, by simp; omega⟩
        rw [hC] at V6
        have HUC := Lib.hid (show w.heap.size + 2 ≤ C by have := HU4.out.size; omega)
        have HB6 := Lib.hid (HB4.out.trans (B6.mono HB4.out.size))
        have HU6 := Lib.hid (HU4.out.trans (B6.mono (by have := HU4.out.size; omega)))
        have HC6 := Lib.hid (show ∃ v, w6.cell? ⟨C, 1, none⟩ = some v ∧ Own KA w6 (C + 1) v (fdK l x q 0) from ⟨_, (K6 1 (by simp)).1, by rw [HFK0.out]; exact Own.nil _ _ _⟩)
        have HD6 := Lib.hid (show w6.cell? ⟨C, 0, none⟩ = some (.int .i64 D) ∧ w6.frozen? ⟨C, 1, none⟩ = false from ⟨(K6 0 (by simp)).1, (K6 1 (by simp)).2⟩)
        clear K5 K6 B5 B6
        go_wp2_with fail
        clear z0 V1 V2 V5 V6 g0 g0' g1 g1' y0 y1 y2 y3 y4
        go_loopw [41] (fun i wr => ∃ k : Nat, k ≤ l.length ∧ i = .int .i64 k ∧ Hid (Below w.heap.size w wr) ∧ Hid (Below (w.heap.size + 2) w2 wr) ∧ Hid (∃ v, wr.cell? ⟨C, 1, none⟩ = some v ∧ Own KA wr (C + 1) v (fdK l x q k)) ∧ Hid (wr.cell? ⟨C, 0, none⟩ = some (.int .i64 D) ∧ wr.frozen? ⟨C, 1, none⟩ = false) ∧ Hid (C < wr.heap.size)) (fun i _ => l.length - (RowKit.intOf i).toNat)
        case atStart => exact ⟨0, Nat.zero_le _, rfl, HB6, HU6, HC6, HD6, Lib.hid (by omega)⟩
        case round =>
          clear HB6 HU6 HC6 HD6 S6
          obtain ⟨k, hk, rfl, HB, HU, HO, HD, HS⟩ := hrel
          by_cases hlt : k < l.length
          · have hki : (k : Int) < (l.length : Int) := by omega
            have HLT := Lib.hid hlt
            have hl24 := HL24.out
            obtain ⟨eb, eo, rfl, _, hcc⟩ := (HIA.out w (Below.refl _ _)).evs (by omega)
            obtain ⟨jb, jo, rfl, _, hjj⟩ := (HJA.out w (Below.refl _ _)).ints8 (by rw [HXL2.out]; omega)
            obtain ⟨d0, d1, d2, d3, d4, d5, d6', d7, d8, d9, d10, d11⟩ := hcc k hlt wr HB.out
            have HJK := Lib.hid (hjj k (by rw [HXL2.out]; exact hlt))
            have hik := fun W => at_ev8 eb eo l.length c k hlt W
            have hjk := fun W => at_int8 jb jo x.length c2 k (by rw [HXL2.out]; exact hlt) W
            obtain ⟨⟨t0, t1⟩, ⟨s0, s1⟩⟩ := HBE.out k hlt
            have HST := Lib.hid (HFKS.out k)
            have HKL := Lib.hid (HFKL.out k)
            generalize evD l k = y at *
            generalize xD x k = t at *
            have hwt : IntKind.i64.wrap (y.tm + 1) = y.tm + 1 := IntWalk.i64_in _ (by omega)
            have hwx : IntKind.i64.wrap (t + 1) = t + 1 := IntWalk.i64_in _ (by omega)
            obtain ⟨w7, V7, Z7, K7, B7⟩ := lay8 wr zE.cells 46
            have V7 := (show wr.alloc (.cells #[.int .i64 0, .int .i64 0, .int .i64 0, .int .i64 0, .int .i64 0, .int .i64 0, .int .i64 0, .int .i64 0, .int .i64 0, .int .i64 0, .int .i64 0, .int .i64 0] 46) = w7 from V7)
            have K7 := (show CellsAt w7 wr.heap.size [.int .i64 0, .int .i64 0, .int .i64 0, .int .i64 0, .int .i64 0, .int .i64 0, .int .i64 0, .int .i64 0, .int .i64 0, .int .i64 0, .int .i64 0, .int .i64 0] from K7)
            obtain ⟨w8, V8, K8, B8⟩ : ∃ w8, ((((((((((((w7.setCell ⟨wr.heap.size, 0, none⟩ (.int .i64 y.ag)).setCell ⟨wr.heap.size, 1, none⟩ (.int .i64 y.sq)).setCell ⟨wr.heap.size, 2, none⟩ (.int .i64 y.tm)).setCell ⟨wr.heap.size, 3, none⟩ (.int .i64 y.kd)).setCell ⟨wr.heap.size, 4, none⟩ (.int .i64 y.tr)).setCell ⟨wr.heap.size, 5, none⟩ (.int .i64 y.sp)).setCell ⟨wr.heap.size, 6, none⟩ (.int .i64 y.lk)).setCell ⟨wr.heap.size, 7, none⟩ (.int .i64 y.gn)).setCell ⟨wr.heap.size, 8, none⟩ (.int .i64 y.op)).setCell ⟨wr.heap.size, 9, none⟩ (.int .i64 y.vr)).setCell ⟨wr.heap.size, 10, none⟩ (.int .i64 y.pe)).setCell ⟨wr.heap.size, 11, none⟩ (.int .i64 y.bt)) = w8 ∧ CellsAt w8 wr.heap.size y.cells ∧ Below wr.heap.size wr w8 := ⟨_, rfl, ((((((((((((K7.put 0 _).put 1 _).put 2 _).put 3 _).put 4 _).put 5 _).put 6 _).put 7 _).put 8 _).put 9 _).put 10 _).put 11 _), ((((((((((((B7.setCell (Nat.le_refl _) _).setCell (Nat.le_refl _) _).setCell (Nat.le_refl _) _).setCell (Nat.le_refl _) _).setCell (Nat.le_refl _) _).setCell (Nat.le_refl _) _).setCell (Nat.le_refl _) _).setCell (Nat.le_refl _) _).setCell (Nat.le_refl _) _).setCell (Nat.le_refl _) _).setCell (Nat.le_refl _) _).setCell (Nat.le_refl _) _)⟩
            obtain ⟨g0, g0'⟩ := K7 0 (by simp)
            obtain ⟨g1, g1'⟩ := K7 1 (by simp)
            obtain ⟨g2, g2'⟩ := K7 2 (by simp)
            obtain ⟨g3, g3'⟩ := K7 3 (by simp)
            obtain ⟨g4, g4'⟩ := K7 4 (by simp)
            obtain ⟨g5, g5'⟩ := K7 5 (by simp)
            obtain ⟨g6, g6'⟩ := K7 6 (by simp)
            obtain ⟨g7, g7'⟩ := K7 7 (by simp)
            obtain ⟨g8, g8'⟩ := K7 8 (by simp)
            obtain ⟨g9, g9'⟩ := K7 9 (by simp)
            obtain ⟨g10, g10'⟩ := K7 10 (by simp)
            obtain ⟨g11, g11'⟩ := K7 11 (by simp)
            simp only [List.getElem_cons_zero, List.getElem_cons_succ] at g0 g1 g2 g3 g4 g5 g6 g7 g8 g9 g10 g11
            obtain ⟨v, r1, r2⟩ := HO.out
            have HO8 := Lib.hid (r2.below B8 (Nat.le_refl _))
            have HB8 := Lib.hid (HB.out.trans (B8.mono HB.out.size))
            have HU8 := Lib.hid (show Below (w.heap.size + 2) w2 w8 from HU.out.trans (B8.mono (by have := HU.out.size; omega)))
            have HS8 := Lib.hid (show C < w8.heap.size from Nat.lt_of_lt_of_le HS.out B8.size)
            have HR8 := Lib.hid (show w8.cell? ⟨C, 1, none⟩ = some v ∧ w8.cell? ⟨C, 0, none⟩ = some (.int .i64 D) ∧ w8.frozen? ⟨C, 1, none⟩ = false from ⟨(B8.cell (p := ⟨C, 1, none⟩) HS.out).trans r1, (B8.cell (p := ⟨C, 0, none⟩) HS.out).trans HD.out.1, (B8.frozen (p := ⟨C, 1, none⟩) HS.out).trans HD.out.2⟩)
            have HE8 := Lib.hid (show ∀ Y, Below w8.heap.size w8 Y → EvBox Y wr.heap.size y from fun Y b => CellsAt.ev (CellsAt.below K8 b))
            obtain ⟨h0, h1, h2, h3, h4, h5, h6, h7, h8, h9, h10, h11⟩ := HE8.out w8 (Below.refl _ _)
            clear K7 K8 B7 B8 HB HU HO HD HS r1 r2 hcc hjj hlt
            by_cases hag : y.ag = (q : Int)
            · have HAQ := Lib.hid hag
              have e1 : (y.ag == (q : Int)) = true := beq_iff_eq.2 hag
              have HST2 := Lib.hid (show fdK l x q (k + 1) = fdK l x q k ++ [⟨y.tm + 1, t + 1⟩] from by rw [HST.out, if_pos HAQ.out])
              clear hag
              go_upto_region 8 with fail
              clear V7 V8 e1 h0 h1 h2 h3 h4 h5 h6 h7 h8 h9 h10 h11 d0 d1 d2 d3 d4 d5 d6' d7 d8 d9 d10 d11 g0 g0' g1 g1' g2 g2' g3 g3' g4 g4' g5 g5' g6 g6' g7 g7' g8 g8' g9 g9' g10 g10' g11 g11'
              have HYY := Lib.hid (show ∀ Y, Below w8.heap.size w8 Y → Y.cell? ⟨C, 1, none⟩ = some v ∧ Y.cell? ⟨wr.heap.size, 2, none⟩ = some (.int .i64 y.tm) ∧ Y.cell? ⟨jb, jo + k, none⟩ = some (.int .i64 t) from fun Y b => ⟨(b.cell (p := ⟨C, 1, none⟩) HS8.out).trans HR8.out.1, (HE8.out Y b).2.2.1, HJK.out Y (HB8.out.trans (b.mono HB8.out.size))⟩)
              refine wp_region_noPanic ?_
              refine wp_region_Kx (C := NewC w8) [12, 13, 14] 12 #[false, false, false, false, false, false, false, false, false, false, false, false, false, false, false] (by kernel_rfl) (by kernel_rfl) (by kernel_rfl) (newC0 _) ?_
              intro wx hwx
              refine wpAnyK_ex (i := 0) rfl (by kernel_rfl) (listed' := #[true, false, false, false, false, false, false, false, false, false, false, false, false, false, false]) rfl (fun _ _ _ _ _ h => h) hwx ?_
              apply Exists.intro
              refine ⟨⟨by kernel_rfl, fun wy hw => ?_⟩, ?_⟩
              · (have bw := hw.below; obtain ⟨f0, f1, f2⟩ := HYY.out _ bw; go_simp; try (first | (with_reducible rfl) | (with_reducible exact ⟨rfl, rfl⟩)))
              try simp only [Act.put, List.getElem_toArray, List.getElem_cons_zero, List.setIfInBounds_toArray, List.set_cons_succ, List.set_cons_zero]
              refine wpAnyK_ex (i := 1) rfl (by kernel_rfl) (listed' := #[true, true, false, false, false, false, false, false, false, false, false, false, false, false, false]) rfl (fun _ _ _ _ _ h => h) hwx ?_
              apply Exists.intro
              refine ⟨⟨by kernel_rfl, fun wy hw => ?_⟩, ?_⟩
              · (have bw := hw.below; obtain ⟨f0, f1, f2⟩ := HYY.out _ bw; go_simp; try (first | (with_reducible rfl) | (with_reducible exact ⟨rfl, rfl⟩)))
              try simp only [Act.put, List.getElem_toArray, List.getElem_cons_succ, List.getElem_cons_zero, List.setIfInBounds_toArray, List.set_cons_succ, List.set_cons_zero]
              refine wpAnyK_ex (i := 2) rfl (by kernel_rfl) (listed' := #[true, true, true, false, false, false, false, false, false, false, false, false, false, false, false]) rfl (fun _ _ _ _ _ h => h) hwx ?_
              apply Exists.intro
              refine ⟨⟨by kernel_rfl, fun wy hw => ?_⟩, ?_⟩
              · (have bw := hw.below; obtain ⟨f0, f1, f2⟩ := HYY.out _ bw; go_simp; try (first | (with_reducible rfl) | (with_reducible exact ⟨rfl, rfl⟩)))
              try simp only [Act.put, List.getElem_toArray, List.getElem_cons_succ, List.getElem_cons_zero, List.setIfInBounds_toArray, List.set_cons_succ, List.set_cons_zero]
              refine wpAnyK_ex (i := 3) rfl (by kernel_rfl) (listed' := #[true, true, true, true, false, false, false, false, false, false, false, false, false, false, false]) rfl (fun _ _ _ _ _ h => h) hwx ?_
              apply Exists.intro
              refine ⟨⟨by kernel_rfl, fun wy hw => ?_⟩, ?_⟩
              · (have bw := hw.below; obtain ⟨f0, f1, f2⟩ := HYY.out _ bw; go_simp; try (first | (with_reducible rfl) | (with_reducible exact ⟨rfl, rfl⟩)))
              try simp only [Act.put, List.getElem_toArray, List.getElem_cons_succ, List.getElem_cons_zero, List.setIfInBounds_toArray, List.set_cons_succ, List.set_cons_zero]
              refine wpAnyK_ex (i := 4) rfl (by kernel_rfl) (listed' := #[true, true, true, true, true, false, false, false, false, false, false, false, false, false, false]) rfl (fun _ _ _ _ _ h => h) hwx ?_
              apply Exists.intro
              refine ⟨⟨by kernel_rfl, fun wy hw => ?_⟩, ?_⟩
              · (have bw := hw.below; obtain ⟨f0, f1, f2⟩ := HYY.out _ bw; go_simp; try (first | (with_reducible rfl) | (with_reducible exact ⟨rfl, rfl⟩)))
              try simp only [Act.put, List.getElem_toArray, List.getElem_cons_succ, List.getElem_cons_zero, List.setIfInBounds_toArray, List.set_cons_succ, List.set_cons_zero]
              refine wpAnyK_ex (i := 5) rfl (by kernel_rfl) (listed' := #[true, true, true, true, true, true, false, false, false, false, false, false, false, false, false]) rfl (fun _ _ _ _ _ h => h) hwx ?_
              apply Exists.intro
              refine ⟨⟨by kernel_rfl, fun wy hw => ?_⟩, ?_⟩
              · (have bw := hw.below; obtain ⟨f0, f1, f2⟩ := HYY.out _ bw; go_simp; try (first | (with_reducible rfl) | (with_reducible exact ⟨rfl, rfl⟩)))
              try simp only [Act.put, List.getElem_toArray, List.getElem_cons_succ, List.getElem_cons_zero, List.setIfInBounds_toArray, List.set_cons_succ, List.set_cons_zero]
              refine wpAnyK_ex (i := 6) rfl (by kernel_rfl) (listed' := #[true, true, true, true, true, true, true, false, false, false, false, false, false, false, false]) rfl (fun _ _ _ _ _ h => h) hwx ?_
              apply Exists.intro
              refine ⟨⟨by kernel_rfl, fun wy hw => ?_⟩, ?_⟩
              · (have bw := hw.below; obtain ⟨f0, f1, f2⟩ := HYY.out _ bw; go_simp; try (first | (with_reducible rfl) | (with_reducible exact ⟨rfl, rfl⟩)))
              try simp only [Act.put, List.getElem_toArray, List.getElem_cons_succ, List.getElem_cons_zero, List.setIfInBounds_toArray, List.set_cons_succ, List.set_cons_zero]
              refine wpAnyK_ex (i := 7) rfl (by kernel_rfl) (listed' := #[true, true, true, true, true, true, true, true, false, false, false, false, false, false, false]) rfl (fun _ _ _ _ _ h => h) hwx ?_
              apply Exists.intro
              refine ⟨⟨by kernel_rfl, fun wy hw => ?_⟩, ?_⟩
              · (have bw := hw.below; obtain ⟨f0, f1, f2⟩ := HYY.out _ bw; go_simp; try (first | (with_reducible rfl) | (with_reducible exact ⟨rfl, rfl⟩)))
              try simp only [Act.put, List.getElem_toArray, List.getElem_cons_succ, List.getElem_cons_zero, List.setIfInBounds_toArray, List.set_cons_succ, List.set_cons_zero]
              refine wpAnyK_ex (i := 8) rfl (by kernel_rfl) (listed' := #[true, true, true, true, true, true, true, true, true, false, false, false, false, false, false]) rfl (fun _ _ _ _ _ h => h) hwx ?_
              apply Exists.intro
              refine ⟨⟨by kernel_rfl, fun wy hw => ?_⟩, ?_⟩
              · (have bw := hw.below; obtain ⟨f0, f1, f2⟩ := HYY.out _ bw; go_simp; try (first | (with_reducible rfl) | (with_reducible exact ⟨rfl, rfl⟩)))
              try simp only [Act.put, List.getElem_toArray, List.getElem_cons_succ, List.getElem_cons_zero, List.setIfInBounds_toArray, List.set_cons_succ, List.set_cons_zero]
              refine wpAnyK_ex (i := 9) rfl (by kernel_rfl) (listed' := #[true, true, true, true, true, true, true, true, true, true, false, false, false, false, false]) rfl (fun _ _ _ _ _ h => h) hwx ?_
              apply Exists.intro
              refine ⟨⟨by kernel_rfl, fun wy hw => ?_⟩, ?_⟩
              · (have bw := hw.below; obtain ⟨f0, f1, f2⟩ := HYY.out _ bw; go_simp; try (first | (with_reducible rfl) | (with_reducible exact ⟨rfl, rfl⟩)))
              try simp only [Act.put, List.getElem_toArray, List.getElem_cons_succ, List.getElem_cons_zero, List.setIfInBounds_toArray, List.set_cons_succ, List.set_cons_zero]
              refine wpAnyK_ex (i := 10) rfl (by kernel_rfl) (listed' := #[true, true, true, true, true, true, true, true, true, true, true, false, false, false, false]) rfl (fun _ _ _ _ _ h => h) hwx ?_
              apply Exists.intro
              refine ⟨⟨by kernel_rfl, fun wy hw => ?_⟩, ?_⟩
              · (have bw := hw.below; obtain ⟨f0, f1, f2⟩ := HYY.out _ bw; go_simp; try (first | (with_reducible rfl) | (with_reducible exact ⟨rfl, rfl⟩)))
              try simp only [Act.put, List.getElem_toArray, List.getElem_cons_succ, List.getElem_cons_zero, List.setIfInBounds_toArray, List.set_cons_succ, List.set_cons_zero]
              have HX := Lib.hid hwx.below
              obtain ⟨wq, VQ, ZQ, KQ, BQ⟩ := lay8 wx [.int .i64 (y.tm + 1), .int .i64 (t + 1)] 60
              have VQ := (show wx.alloc (.cells #[.int .i64 (y.tm + 1), .int .i64 (t + 1)] 60) = wq from VQ)
              have HQ := Lib.hid (show Below w8.heap.size w8 wq from HX.out.trans (BQ.mono HX.out.size))
              have KQ := (show CellsAt wq wx.heap.size (KA.cs (⟨y.tm + 1, t + 1⟩ : An)) from KQ)
              have HKQ := Lib.hid KQ
              clear KQ BQ; skip
              refine wpAnyK_fork1 11 (by kernel_rfl) ?_
              refine wpOpK_step rfl (by kernel_rfl) (listed' := #[true, true, true, true, true, true, true, true, true, true, true, true, false, false, false]) rfl (by kernel_rfl) (fun K hK => ?_)
              go_simp
              refine hK _ _ (HQ.out) ?_
              clear hK K
              try simp only [Act.put, List.getElem_toArray, List.getElem_cons_succ, List.getElem_cons_zero, List.setIfInBounds_toArray, List.set_cons_succ, List.set_cons_zero]
              clear VQ
              refine wpAnyK_end (by kernel_rfl) ?_
              try simp only [pickOps, List.filterMap_cons, List.filterMap_nil, List.getElem?_toArray, List.getElem?_cons_succ, List.getElem?_cons_zero]
              have HOQ := Lib.hid (HO8.out.below HQ.out (Nat.le_refl _))
              have hszq : C + 1 ≤ wq.heap.size := by have := HS8.out; have := HQ.out.size; omega
              have hln : (fdK l x q k).length + 1 ≤ 100000000 := by have h1 := HKL.out; have h2 := HL24.out; omega
              have HQ1 := Lib.hid (show wq.cell? ⟨C, 1, none⟩ = some v ∧ wq.cell? ⟨C, 0, none⟩ = some (.int .i64 D) ∧ wq.frozen? ⟨C, 1, none⟩ = false from ⟨(HQ.out.cell (p := ⟨C, 1, none⟩) HS8.out).trans HR8.out.1, (HQ.out.cell (p := ⟨C, 0, none⟩) HS8.out).trans HR8.out.2.1, (HQ.out.frozen (p := ⟨C, 1, none⟩) HS8.out).trans HR8.out.2.2⟩)
              have HBQ := Lib.hid (HB8.out.trans (HQ.out.mono HB8.out.size))
              have HUQ := Lib.hid (HU8.out.trans (HQ.out.mono (by have := HU8.out.size; omega)))
              refine walk_push8 KA (w0 := wq) rfl _ _ rfl (C + 1) v (fdK l x q k) (⟨y.tm + 1, t + 1⟩ : An) rfl HOQ.out (Below.refl _ _) hszq wx.heap.size 1 rfl HKQ.out hln ?_
              intro v' w' hown hbl hgr hbk; obtain ⟨ad', cp', hv9, _⟩ := hown.form; generalize (fdK l x q k ++ [(⟨y.tm + 1, t + 1⟩ : An)]).length = nl at hv9; subst hv9; have q1 := (hbl.cell (p := ⟨C, 1, none⟩) (by show C < C + 1; omega)).trans HQ1.out.1; have q2 := (hbl.frozen (p := ⟨C, 1, none⟩) (by show C < C + 1; omega)).trans HQ1.out.2.2; obtain ⟨wf, VF, HBf, HUf, HOf, HDf, HSf⟩ : ∃ wf, w'.setCell ⟨C, 1, none⟩ (.slice ad' nl cp') = wf ∧ Hid (Below w.heap.size w wf) ∧ Hid (Below (w.heap.size + 2) w2 wf) ∧ Hid (∃ v, wf.cell? ⟨C, 1, none⟩ = some v ∧ Own KA wf (C + 1) v (fdK l x q (k + 1))) ∧ Hid (wf.cell? ⟨C, 0, none⟩ = some (.int .i64 D) ∧ wf.frozen? ⟨C, 1, none⟩ = false) ∧ Hid (C < wf.heap.size) := ⟨_, rfl, Lib.hid ((HBQ.out.trans (hbl.mono (by have := HUC.out; omega))).setCell (p := ⟨C, 1, none⟩) (by have := HUC.out; show _ ≤ C; omega) _), Lib.hid ((HUQ.out.trans (hbl.mono (by have := HUC.out; omega))).setCell (p := ⟨C, 1, none⟩) (by have := HUC.out; show _ ≤ C; omega) _), Lib.hid ⟨_, World.cell?_setCell_same _ _ _ q1, by rw [HST2.out]; exact hown.far (fun e => by have := (hown.ge _ e).1; omega)⟩, Lib.hid ⟨by rw [World.cell?_setCell_other _ _ _ _ (by intro e; injection e with e1 e2; cases e2)]; exact (hbl.cell (p := ⟨C, 0, none⟩) (by show C < C + 1; omega)).trans HQ1.out.2.1, by simp [q2]⟩, Lib.hid (by have := hbl.size; simp; omega)⟩; clear hown hbl hgr hbk
              go_wp2_with fail
              refine NoPanic.normal ?_
              clear q1 q2 VF
              go_wp2_with fail
              go_roundw
              case rel => exact ⟨k + 1, HLT.out, by go_num, HBf, HUf, HOf, HDf, HSf⟩
              case measure => have := HLT.out; simp [RowKit.intOf]; omega
            · have HAQ := Lib.hid hag
              have e1 : (y.ag == (q : Int)) = false := beq_eq_false_iff_ne.2 hag
              have HOf := Lib.hid (show ∃ v, w8.cell? ⟨C, 1, none⟩ = some v ∧ Own KA w8 (C + 1) v (fdK l x q (k + 1)) from ⟨v, HR8.out.1, by rw [HST.out, if_neg HAQ.out, List.append_nil]; exact HO8.out⟩)
              have HDf := Lib.hid HR8.out.2
              go_wp2_with fail
              go_roundw
              case rel => exact ⟨k + 1, HLT.out, by go_num, HB8, HU8, HOf, HDf, HS8⟩
              case measure => have := HLT.out; simp [RowKit.intOf]; omega
          · have hke : k = l.length := by omega
            have hki : ¬ (k : Int) < (l.length : Int) := by omega
            subst hke
            obtain ⟨v, r1, r2⟩ := HO.out
            rw [HFKA.out] at r2
            obtain ⟨ad', cp', rfl, hcp, hrn⟩ := r2.rn
            have HAN := Lib.hid (show AN.length ≤ maxLen by have h1 := HFKL.out l.length; rw [HFKA.out] at h1; have h2 := HL24.out; unfold maxLen; omega)
            have HRN := Lib.hid hrn
            have HCP := Lib.hid hcp
            have HYY := Lib.hid (show ∀ Y, Below wr.heap.size wr Y → Y.cell? ⟨C, 0, none⟩ = some (.int .i64 D) ∧ Y.cell? ⟨C, 1, none⟩ = some (.slice ad' AN.length cp') ∧ Y.cell? ⟨w.heap.size, 0, none⟩ = some (.slice (some ⟨db, do_, none⟩) f.dr.length c1) ∧ Y.cell? ⟨w.heap.size, 1, none⟩ = some (.int .i64 f.lat) ∧ Y.cell? ⟨w.heap.size, 2, none⟩ = some (.int .i64 f.lia) ∧ Y.cell? ⟨w.heap.size, 3, none⟩ = some (.slice x2 f.sv.length c3) ∧ Y.cell? ⟨w.heap.size, 4, none⟩ = some (.slice x3 f.tm.length c4) from fun Y b => ⟨(b.cell (p := ⟨C, 0, none⟩) HS.out).trans HD.out.1, (b.cell (p := ⟨C, 1, none⟩) HS.out).trans r1, HKX.out Y (HU.out.trans (b.mono (by have := HU.out.size; omega)))⟩)
            clear r1 r2 hcp hrn hlt
            go_upto_region 10 with fail
            have HP := HNO
            cases hCB : CB with
            | false =>
              have HP := Lib.hid (HP.out (by rw [HFD.out, hCB]; rfl))
              have CK := Lib.hid (fun W h => by have := HCK.out W ad' cp' h HAN.out; rw [hCB] at this; exact this)
              clear hCB HFD HNO
              refine wp_region_noPanic ?_
              refine wp_region_Kx (C := NewC wr) [14] 14 #[false, false, false, false, false, false, false, false, false, false, false, false, false, false, false] (by kernel_rfl) (by kernel_rfl) (by kernel_rfl) (newC0 _) ?_
              intro wx hwx
              refine wpAnyK_ex (i := 0) rfl (by kernel_rfl) (listed' := #[true, false, false, false, false, false, false, false, false, false, false, false, false, false, false]) rfl (fun _ _ _ _ _ h => h) hwx ?_
              apply Exists.intro
              refine ⟨⟨by kernel_rfl, fun wy hw => ?_⟩, ?_⟩
              · (have bw := hw.below; obtain ⟨f0, f1, f2, f3, f4, f5, f6⟩ := HYY.out _ bw; go_simp; try (first | (with_reducible rfl) | (with_reducible exact ⟨rfl, rfl⟩)))
              try simp only [Act.put, List.getElem_toArray, List.getElem_cons_zero, List.setIfInBounds_toArray, List.set_cons_succ, List.set_cons_zero]
              have HX0 := Lib.hid hwx.below
              refine wpAnyK_fork1 1 (by kernel_rfl) ?_
              refine wpOpK_step rfl (by kernel_rfl) (listed' := #[true, true, false, false, false, false, false, false, false, false, false, false, false, false, false]) rfl (by kernel_rfl) (fun K hK => ?_)
              go_simp
              refine (CK.out _ (HRN.out.rl.below HX0.out)).mono ?_
              rintro e u1 ⟨rfl, hb⟩
              have HX1 := Lib.hid (show Below wr.heap.size wr u1 from HX0.out.trans (hb.mono HX0.out.size))
              refine hK _ _ HX1.out ?_
              clear hK K hb
              try simp only [Act.put, List.getElem_toArray, List.getElem_cons_succ, List.getElem_cons_zero, List.setIfInBounds_toArray, List.set_cons_succ, List.set_cons_zero]
              refine wpAnyK_ex (i := 2) rfl (by kernel_rfl) (listed' := #[true, true, true, false, false, false, false, false, false, false, false, false, false, false, false]) rfl (fun _ _ _ _ _ h => h) HX1.out ?_
              apply Exists.intro
              refine ⟨⟨by kernel_rfl, fun wy hw => ?_⟩, ?_⟩
              · (have bw := hw.below; obtain ⟨f0, f1, f2, f3, f4, f5, f6⟩ := HYY.out _ bw; go_simp; try (first | (with_reducible rfl) | (with_reducible exact ⟨rfl, rfl⟩)))
              try simp only [Act.put, List.getElem_toArray, List.getElem_cons_succ, List.getElem_cons_zero, List.setIfInBounds_toArray, List.set_cons_succ, List.set_cons_zero]
              refine wpAnyK_ex (i := 3) rfl (by kernel_rfl) (listed' := #[true, true, true, true, false, false, false, false, false, false, false, false, false, false, false]) rfl (fun _ _ _ _ _ h => h) HX1.out ?_
              apply Exists.intro
              refine ⟨⟨by kernel_rfl, fun wy hw => ?_⟩, ?_⟩
              · (have bw := hw.below; obtain ⟨f0, f1, f2, f3, f4, f5, f6⟩ := HYY.out _ bw; go_simp; try (first | (with_reducible rfl) | (with_reducible exact ⟨rfl, rfl⟩)))
              try simp only [Act.put, List.getElem_toArray, List.getElem_cons_succ, List.getElem_cons_zero, List.setIfInBounds_toArray, List.set_cons_succ, List.set_cons_zero]
              refine wpAnyK_not (i := 4) rfl (by kernel_rfl) (listed' := #[true, true, true, true, true, false, false, false, false, false, false, false, false, false, false]) rfl (fun _ _ _ _ _ h => h) HX1.out (by kernel_rfl) ?_
              try simp only [Act.put, List.getElem_toArray, List.getElem_cons_succ, List.getElem_cons_zero, List.setIfInBounds_toArray, List.set_cons_succ, List.set_cons_zero]
              refine wpAnyK_not (i := 5) rfl (by kernel_rfl) (listed' := #[true, true, true, true, true, true, false, false, false, false, false, false, false, false, false]) rfl (fun _ _ _ _ _ h => h) HX1.out (by kernel_rfl) ?_
              try simp only [Act.put, List.getElem_toArray, List.getElem_cons_succ, List.getElem_cons_zero, List.setIfInBounds_toArray, List.set_cons_succ, List.set_cons_zero]
              refine wpAnyK_not (i := 6) rfl (by kernel_rfl) (listed' := #[true, true, true, true, true, true, true, false, false, false, false, false, false, false, false]) rfl (fun _ _ _ _ _ h => h) HX1.out (by kernel_rfl) ?_
              try simp only [Act.put, List.getElem_toArray, List.getElem_cons_succ, List.getElem_cons_zero, List.setIfInBounds_toArray, List.set_cons_succ, List.set_cons_zero]
              refine wpAnyK_not (i := 7) rfl (by kernel_rfl) (listed' := #[true, true, true, true, true, true, true, true, false, false, false, false, false, false, false]) rfl (fun _ _ _ _ _ h => h) HX1.out (by kernel_rfl) ?_
              try simp only [Act.put, List.getElem_toArray, List.getElem_cons_succ, List.getElem_cons_zero, List.setIfInBounds_toArray, List.set_cons_succ, List.set_cons_zero]
              refine wpAnyK_not (i := 8) rfl (by kernel_rfl) (listed' := #[true, true, true, true, true, true, true, true, true, false, false, false, false, false, false]) rfl (fun _ _ _ _ _ h => h) HX1.out (by kernel_rfl) ?_
              try simp only [Act.put, List.getElem_toArray, List.getElem_cons_succ, List.getElem_cons_zero, List.setIfInBounds_toArray, List.set_cons_succ, List.set_cons_zero]
              refine wpAnyK_not (i := 9) rfl (by kernel_rfl) (listed' := #[true, true, true, true, true, true, true, true, true, true, false, false, false, false, false]) rfl (fun _ _ _ _ _ h => h) HX1.out (by kernel_rfl) ?_
              try simp only [Act.put, List.getElem_toArray, List.getElem_cons_succ, List.getElem_cons_zero, List.setIfInBounds_toArray, List.set_cons_succ, List.set_cons_zero]
              refine wpAnyK_not (i := 10) rfl (by kernel_rfl) (listed' := #[true, true, true, true, true, true, true, true, true, true, true, false, false, false, false]) rfl (fun _ _ _ _ _ h => h) HX1.out (by kernel_rfl) ?_
              try simp only [Act.put, List.getElem_toArray, List.getElem_cons_succ, List.getElem_cons_zero, List.setIfInBounds_toArray, List.set_cons_succ, List.set_cons_zero]
              refine wpAnyK_not (i := 11) rfl (by kernel_rfl) (listed' := #[true, true, true, true, true, true, true, true, true, true, true, true, false, false, false]) rfl (fun _ _ _ _ _ h => h) HX1.out (by kernel_rfl) ?_
              try simp only [Act.put, List.getElem_toArray, List.getElem_cons_succ, List.getElem_cons_zero, List.setIfInBounds_toArray, List.set_cons_succ, List.set_cons_zero]
              refine wpAnyK_not (i := 12) rfl (by kernel_rfl) (listed' := #[true, true, true, true, true, true, true, true, true, true, true, true, true, false, false]) rfl (fun _ _ _ _ _ h => h) HX1.out (by kernel_rfl) ?_
              try simp only [Act.put, List.getElem_toArray, List.getElem_cons_succ, List.getElem_cons_zero, List.setIfInBounds_toArray, List.set_cons_succ, List.set_cons_zero]
              refine wpAnyK_not (i := 13) rfl (by kernel_rfl) (listed' := #[true, true, true, true, true, true, true, true, true, true, true, true, true, true, false]) rfl (fun _ _ _ _ _ h => h) HX1.out (by kernel_rfl) ?_
              try simp only [Act.put, List.getElem_toArray, List.getElem_cons_succ, List.getElem_cons_zero, List.setIfInBounds_toArray, List.set_cons_succ, List.set_cons_zero]
              refine wpAnyK_end (by kernel_rfl) ?_
              try simp only [pickOps, List.filterMap_cons, List.filterMap_nil, List.getElem?_toArray, List.getElem?_cons_succ, List.getElem?_cons_zero]
              go_wp2_with fail
              refine NoPanic.normal ?_
              go_upto_region 11 with fail
              have HBu := Lib.hid (HB.out.trans (HX1.out.mono HB.out.size))
              have HUu := Lib.hid (show Below (w.heap.size + 2) w2 u1 from HU.out.trans (HX1.out.mono (by have := HU.out.size; omega)))
              generalize u1 = wu at *
              have KR := HRS.out wu HUu.out
              obtain ⟨p0, p0'⟩ := KR 0 (by simp); obtain ⟨p1, p1'⟩ := KR 1 (by simp)
              simp only [List.getElem_cons_zero, List.getElem_cons_succ] at p0 p1
              obtain ⟨wz, VZ, KZ, BZ⟩ : ∃ wz, (wu.setCell ⟨w.heap.size + 1, 0, none⟩ (.int .i64 0)).setCell ⟨w.heap.size + 1, 1, none⟩ (.slice none 0 0) = wz ∧ CellsAt wz (w.heap.size + 1) [.int .i64 0, .slice none 0 0] ∧ Below w.heap.size w wz := ⟨_, rfl, (KR.put 0 _).put 1 _, (HBu.out.setCell (p := ⟨w.heap.size + 1, 0, none⟩) (by show _ ≤ _ + 1; omega) _).setCell (p := ⟨w.heap.size + 1, 1, none⟩) (by show _ ≤ _ + 1; omega) _⟩
              have k0 := (KZ 0 (by simp)).1; have k1 := (KZ 1 (by simp)).1
              simp only [List.getElem_cons_zero, List.getElem_cons_succ] at k0 k1
              have HPZ := Lib.hid (HP.out wz BZ)
              clear KR KZ BZ
              go_wp2_with fail
              exact bodyPost_ret (v := .tuple #[.agg #[.int .i64 0, .slice none 0 0], .int .i64 80]) (by simp [results, Tryd.results31, go_sem, k0, k1]) rfl HPZ.out
            | true =>
              have CK := Lib.hid (fun W h => by have := HCK.out W ad' cp' h HAN.out; rw [hCB] at this; exact this)
              have HFD := Lib.hid (show FB = !QB by rw [HFD.out, hCB]; rfl)
              have hmq := HMQ.out
              clear hCB
              refine wp_region_noPanic ?_
              refine wp_region_Kx (C := NewC wr) [14] 14 #[false, false, false, false, false, false, false, false, false, false, false, false, false, false, false] (by kernel_rfl) (by kernel_rfl) (by kernel_rfl) (newC0 _) ?_
              intro wx hwx
              refine wpAnyK_ex (i := 0) rfl (by kernel_rfl) (listed' := #[true, false, false, false, false, false, false, false, false, false, false, false, false, false, false]) rfl (fun _ _ _ _ _ h => h) hwx ?_
              apply Exists.intro
              refine ⟨⟨by kernel_rfl, fun wy hw => ?_⟩, ?_⟩
              · (have bw := hw.below; obtain ⟨f0, f1, f2, f3, f4, f5, f6⟩ := HYY.out _ bw; go_simp; try (first | (with_reducible rfl) | (with_reducible exact ⟨rfl, rfl⟩)))
              try simp only [Act.put, List.getElem_toArray, List.getElem_cons_zero, List.setIfInBounds_toArray, List.set_cons_succ, List.set_cons_zero]
              have HX0 := Lib.hid hwx.below
              refine wpAnyK_fork1 1 (by kernel_rfl) ?_
              refine wpOpK_step rfl (by kernel_rfl) (listed' := #[true, true, false, false, false, false, false, false, false, false, false, false, false, false, false]) rfl (by kernel_rfl) (fun K hK => ?_)
              go_simp
              refine (CK.out _ (HRN.out.rl.below HX0.out)).mono ?_
              rintro e u1 ⟨rfl, hb⟩
              have HX1 := Lib.hid (show Below wr.heap.size wr u1 from HX0.out.trans (hb.mono HX0.out.size))
              refine hK _ _ HX1.out ?_
              clear hK K hb
              try simp only [Act.put, List.getElem_toArray, List.getElem_cons_succ, List.getElem_cons_zero, List.setIfInBounds_toArray, List.set_cons_succ, List.set_cons_zero]
              refine wpAnyK_ex (i := 2) rfl (by kernel_rfl) (listed' := #[true, true, true, false, false, false, false, false, false, false, false, false, false, false, false]) rfl (fun _ _ _ _ _ h => h) HX1.out ?_
              apply Exists.intro
              refine ⟨⟨by kernel_rfl, fun wy hw => ?_⟩, ?_⟩
              · (have bw := hw.below; obtain ⟨f0, f1, f2, f3, f4, f5, f6⟩ := HYY.out _ bw; go_simp; try (first | (with_reducible rfl) | (with_reducible exact ⟨rfl, rfl⟩)))
              try simp only [Act.put, List.getElem_toArray, List.getElem_cons_succ, List.getElem_cons_zero, List.setIfInBounds_toArray, List.set_cons_succ, List.set_cons_zero]
              refine wpAnyK_ex (i := 3) rfl (by kernel_rfl) (listed' := #[true, true, true, true, false, false, false, false, false, false, false, false, false, false, false]) rfl (fun _ _ _ _ _ h => h) HX1.out ?_
              apply Exists.intro
              refine ⟨⟨by kernel_rfl, fun wy hw => ?_⟩, ?_⟩
              · (have bw := hw.below; obtain ⟨f0, f1, f2, f3, f4, f5, f6⟩ := HYY.out _ bw; go_simp; try (first | (with_reducible rfl) | (with_reducible exact ⟨rfl, rfl⟩)))
              try simp only [Act.put, List.getElem_toArray, List.getElem_cons_succ, List.getElem_cons_zero, List.setIfInBounds_toArray, List.set_cons_succ, List.set_cons_zero]
              refine wpAnyK_ex (i := 4) rfl (by kernel_rfl) (listed' := #[true, true, true, true, true, false, false, false, false, false, false, false, false, false, false]) rfl (fun _ _ _ _ _ h => h) HX1.out ?_
              apply Exists.intro
              refine ⟨⟨by kernel_rfl, fun wy hw => ?_⟩, ?_⟩
              · (have bw := hw.below; obtain ⟨f0, f1, f2, f3, f4, f5, f6⟩ := HYY.out _ bw; go_simp; try (first | (with_reducible rfl) | (with_reducible exact ⟨rfl, rfl⟩)))
              try simp only [Act.put, List.getElem_toArray, List.getElem_cons_succ, List.getElem_cons_zero, List.setIfInBounds_toArray, List.set_cons_succ, List.set_cons_zero]
              refine wpAnyK_ex (i := 5) rfl (by kernel_rfl) (listed' := #[true, true, true, true, true, true, false, false, false, false, false, false, false, false, false]) rfl (fun _ _ _ _ _ h => h) HX1.out ?_
              apply Exists.intro
              refine ⟨⟨by kernel_rfl, fun wy hw => ?_⟩, ?_⟩
              · (have bw := hw.below; obtain ⟨f0, f1, f2, f3, f4, f5, f6⟩ := HYY.out _ bw; go_simp; try (first | (with_reducible rfl) | (with_reducible exact ⟨rfl, rfl⟩)))
              try simp only [Act.put, List.getElem_toArray, List.getElem_cons_succ, List.getElem_cons_zero, List.setIfInBounds_toArray, List.set_cons_succ, List.set_cons_zero]
              refine wpAnyK_ex (i := 9) rfl (by kernel_rfl) (listed' := #[true, true, true, true, true, true, false, false, false, true, false, false, false, false, false]) rfl (fun _ _ _ _ _ h => h) HX1.out ?_
              apply Exists.intro
              refine ⟨⟨by kernel_rfl, fun wy hw => ?_⟩, ?_⟩
              · (have bw := hw.below; obtain ⟨f0, f1, f2, f3, f4, f5, f6⟩ := HYY.out _ bw; go_simp; try (first | (with_reducible rfl) | (with_reducible exact ⟨rfl, rfl⟩)))
              try simp only [Act.put, List.getElem_toArray, List.getElem_cons_succ, List.getElem_cons_zero, List.setIfInBounds_toArray, List.set_cons_succ, List.set_cons_zero]
              refine wpAnyK_ex (i := 10) rfl (by kernel_rfl) (listed' := #[true, true, true, true, true, true, false, false, false, true, true, false, false, false, false]) rfl (fun _ _ _ _ _ h => h) HX1.out ?_
              apply Exists.intro
              refine ⟨⟨by kernel_rfl, fun wy hw => ?_⟩, ?_⟩
              · (have bw := hw.below; obtain ⟨f0, f1, f2, f3, f4, f5, f6⟩ := HYY.out _ bw; go_simp; try (first | (with_reducible rfl) | (with_reducible exact ⟨rfl, rfl⟩)))
              try simp only [Act.put, List.getElem_toArray, List.getElem_cons_succ, List.getElem_cons_zero, List.setIfInBounds_toArray, List.set_cons_succ, List.set_cons_zero]
              refine wpAnyK_ex (i := 11) rfl (by kernel_rfl) (listed' := #[true, true, true, true, true, true, false, false, false, true, true, true, false, false, false]) rfl (fun _ _ _ _ _ h => h) HX1.out ?_
              apply Exists.intro
              refine ⟨⟨by kernel_rfl, fun wy hw => ?_⟩, ?_⟩
              · (have bw := hw.below; obtain ⟨f0, f1, f2, f3, f4, f5, f6⟩ := HYY.out _ bw; go_simp; try (first | (with_reducible rfl) | (with_reducible exact ⟨rfl, rfl⟩)))
              try simp only [Act.put, List.getElem_toArray, List.getElem_cons_succ, List.getElem_cons_zero, List.setIfInBounds_toArray, List.set_cons_succ, List.set_cons_zero]
              refine wpAnyK_fork1 6 (by kernel_rfl) ?_
              refine wpOpK_step rfl (by kernel_rfl) (listed' := #[true, true, true, true, true, true, true, false, false, true, true, true, false, false, false]) rfl (by kernel_rfl) (fun K hK => ?_)
              go_simp
              refine (CR.out _ (HFA.out _ (HB.out.trans (HX1.out.mono HB.out.size))) HFL.out).mono ?_
              rintro e u2 ⟨g, rs, rfl, hr, hk, hb⟩
              have HX2 := Lib.hid (show Below wr.heap.size wr u2 from HX1.out.trans (hb.mono HX1.out.size))
              refine hK _ _ HX2.out ?_
              clear hK K
              try simp only [Act.put, List.getElem_toArray, List.getElem_cons_succ, List.getElem_cons_zero, List.setIfInBounds_toArray, List.set_cons_succ, List.set_cons_zero]
              have h4 : rs.length = 4 := hk.1
              have HC4 := Lib.hid (show Calls Tryd.prog 44 #[.slice ad l.length c, .slice (some ⟨g, 0, none⟩) 1 4] u2 (ConsPost u2 CL) from by
                have h8 : RL KR u2 (some ⟨g, 0, none⟩) (rs.take 1) := by have h7 := hr.sub 0 1 (by omega); rw [List.drop_zero] at h7; exact h7
                have h9 := HC.out (rs.take 1) g 4 u2 (HIA.out _ (HB.out.trans (HX2.out.mono HB.out.size))) h8 hk.one
                rw [List.length_take, h4] at h9
                exact h9)
              clear hr hk h4 hb
              refine wpAnyK_ex (i := 7) rfl (by kernel_rfl) (listed' := #[true, true, true, true, true, true, true, true, false, true, true, true, false, false, false]) rfl (fun _ _ _ _ _ h => h) HX2.out ?_
              apply Exists.intro
              refine ⟨⟨by kernel_rfl, fun wy hw => ?_⟩, ?_⟩
              · (have bw := hw.below; obtain ⟨f0, f1, f2, f3, f4, f5, f6⟩ := HYY.out _ bw; go_simp; try (first | (with_reducible rfl) | (with_reducible exact ⟨rfl, rfl⟩)))
              try simp only [Act.put, List.getElem_toArray, List.getElem_cons_succ, List.getElem_cons_zero, List.setIfInBounds_toArray, List.set_cons_succ, List.set_cons_zero]
              refine wpAnyK_fork1 8 (by kernel_rfl) ?_
              refine wpOpK_step rfl (by kernel_rfl) (listed' := #[true, true, true, true, true, true, true, true, true, true, true, true, false, false, false]) rfl (by kernel_rfl) (fun K hK => ?_)
              go_simp
              refine (HC4.out).mono ?_
              rintro e u3 ⟨ad5, c5, rfl, hc5, hn5, hb⟩
              have HX3 := Lib.hid (show Below wr.heap.size wr u3 from HX2.out.trans (hb.mono HX2.out.size))
              refine hK _ _ HX3.out ?_
              clear hK K
              try simp only [Act.put, List.getElem_toArray, List.getElem_cons_succ, List.getElem_cons_zero, List.setIfInBounds_toArray, List.set_cons_succ, List.set_cons_zero]
              have HG := Lib.hid (HAG.out ad5 c5 u3 hn5.rl (HJA.out _ (HB.out.trans (HX3.out.mono HB.out.size))))
              clear hc5 hn5 hb
              refine wpAnyK_fork1 12 (by kernel_rfl) ?_
              refine wpOpK_step rfl (by kernel_rfl) (listed' := #[true, true, true, true, true, true, true, true, true, true, true, true, true, false, false]) rfl (by kernel_rfl) (fun K hK => ?_)
              go_simp
              refine (HG.out).mono ?_
              rintro e u4 ⟨rfl, hb⟩
              have HX4 := Lib.hid (show Below wr.heap.size wr u4 from HX3.out.trans (hb.mono HX3.out.size))
              refine hK _ _ HX4.out ?_
              clear hK K hb
              try simp only [Act.put, List.getElem_toArray, List.getElem_cons_succ, List.getElem_cons_zero, List.setIfInBounds_toArray, List.set_cons_succ, List.set_cons_zero]
              refine wpAnyK_ex (i := 13) rfl (by kernel_rfl) (listed' := #[true, true, true, true, true, true, true, true, true, true, true, true, true, true, false]) rfl (fun _ _ _ _ _ h => h) HX4.out ?_
              apply Exists.intro
              refine ⟨⟨by kernel_rfl, fun wy hw => ?_⟩, ?_⟩
              · (have bw := hw.below; obtain ⟨f0, f1, f2, f3, f4, f5, f6⟩ := HYY.out _ bw; go_simp; try (first | (with_reducible rfl) | (with_reducible exact ⟨rfl, rfl⟩)))
              try simp only [Act.put, List.getElem_toArray, List.getElem_cons_succ, List.getElem_cons_zero, List.setIfInBounds_toArray, List.set_cons_succ, List.set_cons_zero]
              refine wpAnyK_end (by kernel_rfl) ?_
              try simp only [pickOps, List.filterMap_cons, List.filterMap_nil, List.getElem?_toArray, List.getElem?_cons_succ, List.getElem?_cons_zero]
              cases hQB : QB with
              | true =>
                have HP := Lib.hid (HP.out (by rw [HFD.out, hQB]; rfl))
                clear hQB
                go_wp2_with fail
                refine NoPanic.normal ?_
                go_upto_region 11 with fail
                have HBu := Lib.hid (HB.out.trans (HX4.out.mono HB.out.size))
                have HUu := Lib.hid (show Below (w.heap.size + 2) w2 u4 from HU.out.trans (HX4.out.mono (by have := HU.out.size; omega)))
                generalize u4 = wu at *
                have KR := HRS.out wu HUu.out
                obtain ⟨p0, p0'⟩ := KR 0 (by simp); obtain ⟨p1, p1'⟩ := KR 1 (by simp)
                simp only [List.getElem_cons_zero, List.getElem_cons_succ] at p0 p1
                obtain ⟨wz, VZ, KZ, BZ⟩ : ∃ wz, (wu.setCell ⟨w.heap.size + 1, 0, none⟩ (.int .i64 0)).setCell ⟨w.heap.size + 1, 1, none⟩ (.slice none 0 0) = wz ∧ CellsAt wz (w.heap.size + 1) [.int .i64 0, .slice none 0 0] ∧ Below w.heap.size w wz := ⟨_, rfl, (KR.put 0 _).put 1 _, (HBu.out.setCell (p := ⟨w.heap.size + 1, 0, none⟩) (by show _ ≤ _ + 1; omega) _).setCell (p := ⟨w.heap.size + 1, 1, none⟩) (by show _ ≤ _ + 1; omega) _⟩
                have k0 := (KZ 0 (by simp)).1; have k1 := (KZ 1 (by simp)).1
                simp only [List.getElem_cons_zero, List.getElem_cons_succ] at k0 k1
                have HPZ := Lib.hid (HP.out wz BZ)
                clear KR KZ BZ
                go_wp2_with fail
                exact bodyPost_ret (v := .tuple #[.agg #[.int .i64 0, .slice none 0 0], .int .i64 80]) (by simp [results, Tryd.results31, go_sem, k0, k1]) rfl HPZ.out
              | false =>
                have HP := Lib.hid (HYES.out (by rw [HFD.out, hQB]; rfl))
                clear hQB
                go_wp2_with fail
                refine NoPanic.normal ?_
                have HBu := Lib.hid (HB.out.trans (HX4.out.mono HB.out.size))
                have HUu := Lib.hid (show Below (w.heap.size + 2) w2 u4 from HU.out.trans (HX4.out.mono (by have := HU.out.size; omega)))
                have KR := HRS.out u4 HUu.out
                obtain ⟨p0, p0'⟩ := KR 0 (by simp); obtain ⟨p1, p1'⟩ := KR 1 (by simp)
                simp only [List.getElem_cons_zero, List.getElem_cons_succ] at p0 p1
                obtain ⟨q0, q1, _⟩ := HYY.out u4 HX4.out
                have HUC' := HUC.out
                obtain ⟨wz, VZ, KZ, BZ, RZ⟩ : ∃ wz, (u4.setCell ⟨w.heap.size + 1, 0, none⟩ (.int .i64 D)).setCell ⟨w.heap.size + 1, 1, none⟩ (.slice ad' AN.length cp') = wz ∧ CellsAt wz (w.heap.size + 1) [.int .i64 D, .slice ad' AN.length cp'] ∧ Below w.heap.size w wz ∧ RN KA wz (C + 1) ad' AN := ⟨_, rfl, (KR.put 0 _).put 1 _, (HBu.out.setCell (p := ⟨w.heap.size + 1, 0, none⟩) (by show _ ≤ _ + 1; omega) _).setCell (p := ⟨w.heap.size + 1, 1, none⟩) (by show _ ≤ _ + 1; omega) _, (((HRN.out.below HX4.out).far (by omega)).far (by omega))⟩
                have k0 := (KZ 0 (by simp)).1; have k1 := (KZ 1 (by simp)).1
                simp only [List.getElem_cons_zero, List.getElem_cons_succ] at k0 k1
                have HPZ := Lib.hid (HP.out wz ad' cp' HCP.out (RZ.base (by omega)) BZ)
                clear KR KZ BZ RZ
                go_wp2_with fail
                exact bodyPost_ret (v := .tuple #[.agg #[.int .i64 D, .slice ad' AN.length cp'], .int .i64 0]) (by simp [results, Tryd.results31, go_sem, k0, k1]) rfl HPZ.out
end Go.Proofs.YtifdcfjllonmgaaDoor
