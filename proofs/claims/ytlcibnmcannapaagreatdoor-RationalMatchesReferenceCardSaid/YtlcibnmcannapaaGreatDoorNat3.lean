/-
  The contracts of package integer's natural.plus and natural.multiple.
-/
import Derived.Test.YtlcibnmcannapaaGreatDoorGnat
namespace Go.Proofs.YtlcibnmcannapaaGreatDoor
open Go Go.Proofs Go.RowKit Go.Lib

theorem tmod_pos {t : Int} (h : 0 ≤ t) : Int.tmod t 10000 = t % 10000 ∧ Int.tdiv t 10000 = t / 10000 := ⟨Int.tmod_eq_emod_of_nonneg h, Int.tdiv_eq_ediv_of_nonneg h⟩
theorem tmod_neg {t : Int} (h : t < 0) : Int.tmod t 10000 = -((-t) % 10000) ∧ Int.tdiv t 10000 = -((-t) / 10000) := by
  have e1 := Int.tmod_eq_emod_of_nonneg (a := -t) (b := 10000) (by omega)
  have e2 := Int.tdiv_eq_ediv_of_nonneg (a := -t) (b := 10000) (by omega)
  rw [Int.neg_tmod] at e1
  rw [Int.neg_tdiv] at e2
  exact ⟨by omega, by omega⟩
/-- What the machine's quotient and remainder say of the floor's. -/
theorem floor_cases (t : Int) (hb : -100000000 ≤ t ∧ t ≤ 100000000) : ∃ (d : Nat) (c' r s : Int), (d : Int) = t % 10000 ∧ c' = t / 10000 ∧ Int.tmod t 10000 = r ∧ Int.tdiv t 10000 = s ∧ (0 ≤ t → t % 10000 = r ∧ t / 10000 = s) ∧ -10000 < r ∧ r < 10000 ∧ -10000 ≤ s ∧ s ≤ 10000 ∧
    ((0 ≤ r ∧ r = (d : Int) ∧ s = c') ∨ (r < 0 ∧ r + 10000 = (d : Int) ∧ s - 1 = c')) := by
  refine ⟨(t % 10000).toNat, t / 10000, _, _, by omega, rfl, rfl, rfl, ?_⟩
  by_cases h : t < 0
  · obtain ⟨e1, e2⟩ := tmod_neg h
    rw [e1, e2]
    refine ⟨by omega, by omega, by omega, by omega, by omega, ?_⟩
    by_cases h0 : (-t) % 10000 = 0
    · left; omega
    · right; omega
  · obtain ⟨e1, e2⟩ := tmod_pos (show 0 ≤ t by omega)
    rw [e1, e2]
    refine ⟨by omega, by omega, by omega, by omega, by omega, ?_⟩
    left; omega

/-- Two stores into one cell. -/
theorem IsI.store2 {W : World} {g : Nat} {l : List Nat} (h : IsI W g l) (i v : Nat) (x y : Int) (hx : x = (v : Nat)) : IsI ((W.setCell ⟨g, i, none⟩ (.int .i64 y)).setCell ⟨g, i, none⟩ (.int .i64 x)) g (l.set i v) := by
  subst hx
  have h1 : (W.setCell ⟨g, i, none⟩ (.int .i64 y)).heap[g]? = some (.cells ((numVals .i64 l).toArray.setIfInBounds i (.int .i64 y)) 3 (0, 0)) := heap_setCell_same W g i _ 3 _ h
  unfold IsI
  have e : (numVals .i64 (l.set i v)).toArray = ((numVals .i64 l).toArray.setIfInBounds i (.int .i64 y)).setIfInBounds i (.int .i64 ((v : Nat) : Int)) := by simp [numVals, List.map_set]
  rw [e]
  exact heap_setCell_same _ g i _ 3 _ h1

set_option maxRecDepth 100000 in
set_option maxHeartbeats 8000000 in
theorem plus_new (x y m : Nat) (f : Int) (hf1 : -9999 ≤ f) (hf2 : f ≤ 9999) (hm : (x : Int) + f * (y : Int) = (m : Int)) (ad1 ad2 : Option Addr) (c1 c2 n1 n2 : Nat) (w : World) (h1 : NatAt w ad1 n1 c1 x) (h2 : NatAt w ad2 n2 c2 y) (hn1 : n1 ≤ 1000) (hn2 : n2 ≤ 1000) :
    Calls Tryz.prog 104 #[.slice ad1 n1 c1, .slice ad2 n2 c2, .int .i64 f] w (NatNew w m) := by
  obtain ⟨e1, H1⟩ := h1
  obtain ⟨e2, H2⟩ := h2
  have ha := grps_lt x
  have hb := grps_lt y
  have va := valG_grps x
  have vb := valG_grps y
  obtain ⟨a, hae⟩ : ∃ a, grps x = a := ⟨_, rfl⟩
  obtain ⟨b, hbe⟩ : ∃ b, grps y = b := ⟨_, rfl⟩
  rw [hae] at ha va H1 e1
  rw [hbe] at hb vb H2 e2
  obtain ⟨N, hN⟩ : ∃ N, max n1 n2 + 1 = N := ⟨_, rfl⟩
  have hN1 : n1 + 1 ≤ N := by omega
  have hN2 : n2 + 1 ≤ N := by omega
  have hNb : N ≤ 1001 := by omega
  have hval : (valG a : Int) + f * (valG b : Int) = (m : Int) := by rw [va, vb]; exact hm
  have hlt := plusG_lt ha hb hf2 hval (by rw [e1]; exact hN1) (by rw [e2]; exact hN2)
  have hst := plusG_start a b f N ha (by rw [e1]; omega)
  rw [e1] at hst
  obtain ⟨O, hO⟩ : ∃ O, List.replicate N 0 = O := ⟨_, rfl⟩
  have hOl : O.length = N := by rw [← hO]; simp
  have hmk := fun W (z : Int) (hz : z = (N : Int)) => make_nat N (by omega) W z hz
  rw [hO] at hmk
  have hbn : Below w.heap.size w (w.alloc (.cells (numVals .i64 O).toArray 3)) := (Below.refl _ w).alloc (Nat.le_refl _) _
  have hnew := isI_new w O
  have hcp : O.take 0 ++ (a ++ O.drop (0 + n1)) = a ++ List.replicate (N - n1) 0 := by rw [← hO]; simp
  have hH1 := H1.below hbn (Nat.le_refl _)
  have HA := Lib.hid ha; have HB := Lib.hid hb; have HH2 := Lib.hid H2; have HH1 := Lib.hid hH1; have E1 := Lib.hid e1; have E2 := Lib.hid e2; have HV := Lib.hid hval; have HLT := Lib.hid hlt; have HST := Lib.hid hst; have HBN := Lib.hid hbn; have HNEW := Lib.hid hnew; have HCP := Lib.hid hcp; have HOL := Lib.hid hOl
  clear ha hb va vb H1 H2 hH1 e1 e2 hae hbe hval hlt hst hbn hnew hcp hOl hO hm
  rcases Nat.lt_or_ge n1 n2 with hc | hc
  · have hci : (n1 : Int) < (n2 : Int) := by omega
    have hmk1 := fun W => hmk W ((n2 : Int) + 1) (by omega)
    clear hmk hN
    go_enter Tryz.func104, Tryz.ntmps104
    go_wp2_with (refine walk_copyN (o := ⟨some 19, _, _, _, _, _⟩) (w0 := w) rfl (.tmp 17) (.tmp 18) rfl w.heap.size 0 N N n1 c1 _ ad1 O a rfl rfl HNEW.out HH1.out E1.out (by omega) (fun _ => rfl) (by rw [HOL.out]; omega) HBN.out (Nat.le_refl _) ?_; intro w2 hI2 hb2)
    rw [HCP.out] at hI2
    go_loopw [8, 22] (fun c i wr => ∃ (out : List Nat) (k : Nat) (q : Int), k ≤ N ∧ i = .int .i64 k ∧ c = .int .i64 q ∧ Hid (PlusG a b f N out q k) ∧ Hid (IsI wr w.heap.size out) ∧ Hid (Below w.heap.size w wr)) (fun _ i _ => N - (RowKit.intOf i).toNat)
    case atStart => exact ⟨_, 0, 0, Nat.zero_le _, rfl, rfl, HST.out, hI2, hb2⟩
    case round =>
      obtain ⟨out, k, q, hk, rfl, rfl, hinv, hIs, hbr⟩ := hrel
      by_cases hA : k < N
      · have hA2 : (k : Int) < (N : Int) := by omega
        have hq1 := hinv.out.2.2.2.1
        have hq2 := hinv.out.2.2.2.2.1
        have hol := hinv.out.1
        have ck := hIs.out.cell k (by rw [hol]; exact hA)
        have fk := hIs.out.frozen k
        have j5 := fun w' => atN w.heap.size 0 N N k (k : Int) rfl hA w'
        rw [Nat.zero_add] at j5
        have ol := getG_grp hinv.out.2.1 k
        have hstp := fun d c' => plusG_step HB.out hf1 hf2 hinv.out hA d c'
        have hIs1 := fun v x hx => hIs.out.store k v x hx
        have hIs2 := fun v x y hx => hIs.out.store2 k v x y hx
        have hb1 := fun v => hbr.out.setCell (p := ⟨w.heap.size, k, none⟩) (Nat.le_refl _) v
        have hb2' := fun v v2 => (hb1 v).setCell (p := ⟨w.heap.size, k, none⟩) (Nat.le_refl _) v2
        obtain ⟨o, ho⟩ : ∃ o, out.getD k 0 = o := ⟨_, rfl⟩
        rw [ho] at ck ol hstp
        have HS1 := Lib.hid hIs1; have HS2 := Lib.hid hIs2; have HB1 := Lib.hid hb1; have HB2 := Lib.hid hb2'
        clear hIs1 hIs2 hb1 hb2' hol ho hinv hIs
        by_cases hB : k < n2
        · have hB2 : (k : Int) < (n2 : Int) := by omega
          have kb : k < b.length := by rw [E2.out]; exact hB
          obtain ⟨g2, o2, rfl, hg2, hs2⟩ := HH2.out.at (by omega)
          have cb := (hs2.below hbr.out hg2) k kb
          have yl := getG_grp HB.out k
          have j2 := fun w => atN g2 o2 n2 c2 k (k : Int) rfl (by omega) w
          obtain ⟨z, hz⟩ : ∃ z, b.getD k 0 = z := ⟨_, rfl⟩
          rw [hz] at cb yl hstp
          obtain ⟨p, hp⟩ : ∃ p, f * (z : Int) = p := ⟨_, rfl⟩
          have hp1 : -99980001 ≤ p ∧ p ≤ 99980001 := by
            have a1 : f * (z : Int) ≤ 9999 * (z : Int) := Int.mul_le_mul_of_nonneg_right hf2 (by omega)
            have a2 : (-9999) * (z : Int) ≤ f * (z : Int) := Int.mul_le_mul_of_nonneg_right hf1 (by omega)
            omega
          rw [hp] at hstp
          obtain ⟨hp1, hp2⟩ := hp1
          have hw1 : IntKind.i64.wrap p = p := IntWalk.i64_in _ (by omega)
          clear hbr hz kb hs2
          obtain ⟨d, c', r, s, hd, hc', hrm, hsm, hpos, hr1, hr2, hs1, hs2, hcase⟩ := floor_cases (q + (o : Int) + p) (by omega)
          have hst2 := hstp d c' hd hc'
          clear hstp hd hc'
          rcases hcase with ⟨hr0, hr, hs⟩ | ⟨hr0, hr, hs⟩
          · have HR := Lib.hid hr; have HC := Lib.hid hs
            have hz : ¬ r < 0 := by omega
            clear hr hs
            by_cases h0 : 0 ≤ q + (o : Int) + p
            · obtain ⟨he1, he2⟩ := hpos h0
              clear hpos
              have HST := Lib.hid hst2
              clear hst2
              go_wp2_with fail
              go_roundw
              case rel => exact ⟨out.set k d, k + 1, c', by omega, by go_num, congrArg (Value.int .i64) HC.out, HST.out, HS1.out d r HR.out, HB1.out _⟩
              case measure => simp [RowKit.intOf]; omega
            · clear hpos
              have HST := Lib.hid hst2
              clear hst2
              go_wp2_with fail
              go_roundw
              case rel => exact ⟨out.set k d, k + 1, c', by omega, by go_num, congrArg (Value.int .i64) HC.out, HST.out, HS1.out d r HR.out, HB1.out _⟩
              case measure => simp [RowKit.intOf]; omega
          · have HR := Lib.hid hr; have HC := Lib.hid hs
            clear hr hs
            have h0 : ¬ 0 ≤ q + (o : Int) + p := fun h => by have := hpos h; omega
            clear hpos
            have HST := Lib.hid hst2
            clear hst2
            go_wp2_with fail
            go_roundw
            case rel => exact ⟨out.set k d, k + 1, c', by omega, by go_num, congrArg (Value.int .i64) HC.out, HST.out, HS2.out d (r + 10000) r HR.out, HB2.out _ _⟩
            case measure => simp [RowKit.intOf]; omega
        · have hB2 : ¬ (k : Int) < (n2 : Int) := by omega
          have yz : b.getD k 0 = 0 := by rw [List.getD_eq_getElem?_getD, List.getElem?_eq_none (by rw [E2.out]; omega)]; rfl
          rw [yz, show f * ((0 : Nat) : Int) = 0 by simp, Int.add_zero] at hstp
          clear hbr yz
          obtain ⟨d, c', r, s, hd, hc', hrm, hsm, hpos, hr1, hr2, hs1, hs2, hcase⟩ := floor_cases (q + (o : Int)) (by omega)
          have hst2 := hstp d c' hd hc'
          clear hstp hd hc'
          rcases hcase with ⟨hr0, hr, hs⟩ | ⟨hr0, hr, hs⟩
          · have HR := Lib.hid hr; have HC := Lib.hid hs
            have hz : ¬ r < 0 := by omega
            clear hr hs
            by_cases h0 : 0 ≤ q + (o : Int)
            · obtain ⟨he1, he2⟩ := hpos h0
              clear hpos
              have HST := Lib.hid hst2
              clear hst2
              go_wp2_with fail
              go_roundw
              case rel => exact ⟨out.set k d, k + 1, c', by omega, by go_num, congrArg (Value.int .i64) HC.out, HST.out, HS1.out d r HR.out, HB1.out _⟩
              case measure => simp [RowKit.intOf]; omega
            · clear hpos
              have HST := Lib.hid hst2
              clear hst2
              go_wp2_with fail
              go_roundw
              case rel => exact ⟨out.set k d, k + 1, c', by omega, by go_num, congrArg (Value.int .i64) HC.out, HST.out, HS1.out d r HR.out, HB1.out _⟩
              case measure => simp [RowKit.intOf]; omega
          · have HR := Lib.hid hr; have HC := Lib.hid hs
            clear hr hs
            have h0 : ¬ 0 ≤ q + (o : Int) := fun h => by have := hpos h; omega
            clear hpos
            have HST := Lib.hid hst2
            clear hst2
            go_wp2_with fail
            go_roundw
            case rel => exact ⟨out.set k d, k + 1, c', by omega, by go_num, congrArg (Value.int .i64) HC.out, HST.out, HS2.out d (r + 10000) r HR.out, HB2.out _ _⟩
            case measure => simp [RowKit.intOf]; omega
      · have hkN : k = N := by omega
        subst hkN
        have hA2 : ¬ (k : Int) < (k : Int) := by omega
        have hfin := plusG_end (by rw [E1.out]; omega) (by rw [E2.out]; omega) hinv.out HV.out HLT.out
        have hol := hinv.out.1
        have hog := hinv.out.2.1
        have hH := hIs.out.held k hol (by omega)
        have hpost := nat_trim (w := w) hog hIs.out hol (by omega) hfin hbr.out (Nat.le_refl _)
        have ct := fun W (e : wr = W) => trimmed_any3 out hog (some ⟨w.heap.size, 0, none⟩) k W (by rw [← e]; exact hH) k hol
        obtain ⟨L, hL⟩ : ∃ L, (trimG out).length = L := ⟨_, rfl⟩
        rw [hL] at hpost ct
        have HPOST := Lib.hid hpost; have CT := Lib.hid ct
        clear hpost ct hL hfin hog hol hH hinv hIs hbr
        go_wp2_with fail
        refine (CT.out _ rfl).mono ?_
        rintro e w3 ⟨rfl, rfl⟩
        go_wp2
        go_ret
        exact HPOST.out
  · have hci : (n2 : Int) ≤ (n1 : Int) := by omega
    have hmk1 := fun W => hmk W ((n1 : Int) + 1) (by omega)
    clear hmk hN
    go_enter Tryz.func104, Tryz.ntmps104
    go_wp2_with (refine walk_copyN (o := ⟨some 19, _, _, _, _, _⟩) (w0 := w) rfl (.tmp 17) (.tmp 18) rfl w.heap.size 0 N N n1 c1 _ ad1 O a rfl rfl HNEW.out HH1.out E1.out (by omega) (fun _ => rfl) (by rw [HOL.out]; omega) HBN.out (Nat.le_refl _) ?_; intro w2 hI2 hb2)
    rw [HCP.out] at hI2
    go_loopw [8, 22] (fun c i wr => ∃ (out : List Nat) (k : Nat) (q : Int), k ≤ N ∧ i = .int .i64 k ∧ c = .int .i64 q ∧ Hid (PlusG a b f N out q k) ∧ Hid (IsI wr w.heap.size out) ∧ Hid (Below w.heap.size w wr)) (fun _ i _ => N - (RowKit.intOf i).toNat)
    case atStart => exact ⟨_, 0, 0, Nat.zero_le _, rfl, rfl, HST.out, hI2, hb2⟩
    case round =>
      obtain ⟨out, k, q, hk, rfl, rfl, hinv, hIs, hbr⟩ := hrel
      by_cases hA : k < N
      · have hA2 : (k : Int) < (N : Int) := by omega
        have hq1 := hinv.out.2.2.2.1
        have hq2 := hinv.out.2.2.2.2.1
        have hol := hinv.out.1
        have ck := hIs.out.cell k (by rw [hol]; exact hA)
        have fk := hIs.out.frozen k
        have j5 := fun w' => atN w.heap.size 0 N N k (k : Int) rfl hA w'
        rw [Nat.zero_add] at j5
        have ol := getG_grp hinv.out.2.1 k
        have hstp := fun d c' => plusG_step HB.out hf1 hf2 hinv.out hA d c'
        have hIs1 := fun v x hx => hIs.out.store k v x hx
        have hIs2 := fun v x y hx => hIs.out.store2 k v x y hx
        have hb1 := fun v => hbr.out.setCell (p := ⟨w.heap.size, k, none⟩) (Nat.le_refl _) v
        have hb2' := fun v v2 => (hb1 v).setCell (p := ⟨w.heap.size, k, none⟩) (Nat.le_refl _) v2
        obtain ⟨o, ho⟩ : ∃ o, out.getD k 0 = o := ⟨_, rfl⟩
        rw [ho] at ck ol hstp
        have HS1 := Lib.hid hIs1; have HS2 := Lib.hid hIs2; have HB1 := Lib.hid hb1; have HB2 := Lib.hid hb2'
        clear hIs1 hIs2 hb1 hb2' hol ho hinv hIs
        by_cases hB : k < n2
        · have hB2 : (k : Int) < (n2 : Int) := by omega
          have kb : k < b.length := by rw [E2.out]; exact hB
          obtain ⟨g2, o2, rfl, hg2, hs2⟩ := HH2.out.at (by omega)
          have cb := (hs2.below hbr.out hg2) k kb
          have yl := getG_grp HB.out k
          have j2 := fun w => atN g2 o2 n2 c2 k (k : Int) rfl (by omega) w
          obtain ⟨z, hz⟩ : ∃ z, b.getD k 0 = z := ⟨_, rfl⟩
          rw [hz] at cb yl hstp
          obtain ⟨p, hp⟩ : ∃ p, f * (z : Int) = p := ⟨_, rfl⟩
          have hp1 : -99980001 ≤ p ∧ p ≤ 99980001 := by
            have a1 : f * (z : Int) ≤ 9999 * (z : Int) := Int.mul_le_mul_of_nonneg_right hf2 (by omega)
            have a2 : (-9999) * (z : Int) ≤ f * (z : Int) := Int.mul_le_mul_of_nonneg_right hf1 (by omega)
            omega
          rw [hp] at hstp
          obtain ⟨hp1, hp2⟩ := hp1
          have hw1 : IntKind.i64.wrap p = p := IntWalk.i64_in _ (by omega)
          clear hbr hz kb hs2
          obtain ⟨d, c', r, s, hd, hc', hrm, hsm, hpos, hr1, hr2, hs1, hs2, hcase⟩ := floor_cases (q + (o : Int) + p) (by omega)
          have hst2 := hstp d c' hd hc'
          clear hstp hd hc'
          rcases hcase with ⟨hr0, hr, hs⟩ | ⟨hr0, hr, hs⟩
          · have HR := Lib.hid hr; have HC := Lib.hid hs
            have hz : ¬ r < 0 := by omega
            clear hr hs
            by_cases h0 : 0 ≤ q + (o : Int) + p
            · obtain ⟨he1, he2⟩ := hpos h0
              clear hpos
              have HST := Lib.hid hst2
              clear hst2
              go_wp2_with fail
              go_roundw
              case rel => exact ⟨out.set k d, k + 1, c', by omega, by go_num, congrArg (Value.int .i64) HC.out, HST.out, HS1.out d r HR.out, HB1.out _⟩
              case measure => simp [RowKit.intOf]; omega
            · clear hpos
              have HST := Lib.hid hst2
              clear hst2
              go_wp2_with fail
              go_roundw
              case rel => exact ⟨out.set k d, k + 1, c', by omega, by go_num, congrArg (Value.int .i64) HC.out, HST.out, HS1.out d r HR.out, HB1.out _⟩
              case measure => simp [RowKit.intOf]; omega
          · have HR := Lib.hid hr; have HC := Lib.hid hs
            clear hr hs
            have h0 : ¬ 0 ≤ q + (o : Int) + p := fun h => by have := hpos h; omega
            clear hpos
            have HST := Lib.hid hst2
            clear hst2
            go_wp2_with fail
            go_roundw
            case rel => exact ⟨out.set k d, k + 1, c', by omega, by go_num, congrArg (Value.int .i64) HC.out, HST.out, HS2.out d (r + 10000) r HR.out, HB2.out _ _⟩
            case measure => simp [RowKit.intOf]; omega
        · have hB2 : ¬ (k : Int) < (n2 : Int) := by omega
          have yz : b.getD k 0 = 0 := by rw [List.getD_eq_getElem?_getD, List.getElem?_eq_none (by rw [E2.out]; omega)]; rfl
          rw [yz, show f * ((0 : Nat) : Int) = 0 by simp, Int.add_zero] at hstp
          clear hbr yz
          obtain ⟨d, c', r, s, hd, hc', hrm, hsm, hpos, hr1, hr2, hs1, hs2, hcase⟩ := floor_cases (q + (o : Int)) (by omega)
          have hst2 := hstp d c' hd hc'
          clear hstp hd hc'
          rcases hcase with ⟨hr0, hr, hs⟩ | ⟨hr0, hr, hs⟩
          · have HR := Lib.hid hr; have HC := Lib.hid hs
            have hz : ¬ r < 0 := by omega
            clear hr hs
            by_cases h0 : 0 ≤ q + (o : Int)
            · obtain ⟨he1, he2⟩ := hpos h0
              clear hpos
              have HST := Lib.hid hst2
              clear hst2
              go_wp2_with fail
              go_roundw
              case rel => exact ⟨out.set k d, k + 1, c', by omega, by go_num, congrArg (Value.int .i64) HC.out, HST.out, HS1.out d r HR.out, HB1.out _⟩
              case measure => simp [RowKit.intOf]; omega
            · clear hpos
              have HST := Lib.hid hst2
              clear hst2
              go_wp2_with fail
              go_roundw
              case rel => exact ⟨out.set k d, k + 1, c', by omega, by go_num, congrArg (Value.int .i64) HC.out, HST.out, HS1.out d r HR.out, HB1.out _⟩
              case measure => simp [RowKit.intOf]; omega
          · have HR := Lib.hid hr; have HC := Lib.hid hs
            clear hr hs
            have h0 : ¬ 0 ≤ q + (o : Int) := fun h => by have := hpos h; omega
            clear hpos
            have HST := Lib.hid hst2
            clear hst2
            go_wp2_with fail
            go_roundw
            case rel => exact ⟨out.set k d, k + 1, c', by omega, by go_num, congrArg (Value.int .i64) HC.out, HST.out, HS2.out d (r + 10000) r HR.out, HB2.out _ _⟩
            case measure => simp [RowKit.intOf]; omega
      · have hkN : k = N := by omega
        subst hkN
        have hA2 : ¬ (k : Int) < (k : Int) := by omega
        have hfin := plusG_end (by rw [E1.out]; omega) (by rw [E2.out]; omega) hinv.out HV.out HLT.out
        have hol := hinv.out.1
        have hog := hinv.out.2.1
        have hH := hIs.out.held k hol (by omega)
        have hpost := nat_trim (w := w) hog hIs.out hol (by omega) hfin hbr.out (Nat.le_refl _)
        have ct := fun W (e : wr = W) => trimmed_any3 out hog (some ⟨w.heap.size, 0, none⟩) k W (by rw [← e]; exact hH) k hol
        obtain ⟨L, hL⟩ : ∃ L, (trimG out).length = L := ⟨_, rfl⟩
        rw [hL] at hpost ct
        have HPOST := Lib.hid hpost; have CT := Lib.hid ct
        clear hpost ct hL hfin hog hol hH hinv hIs hbr
        go_wp2_with fail
        refine (CT.out _ rfl).mono ?_
        rintro e w3 ⟨rfl, rfl⟩
        go_wp2
        go_ret
        exact HPOST.out

theorem plus_any3 (x y m : Nat) (f : Int) (hf1 : -9999 ≤ f) (hf2 : f ≤ 9999) (hm : (x : Int) + f * (y : Int) = (m : Int)) (ad1 ad2 : Option Addr) (c1 c2 n1 n2 : Nat) (w : World) (h1 : NatAt w ad1 n1 c1 x) (h2 : NatAt w ad2 n2 c2 y) (hn1 : n1 ≤ 1000) (hn2 : n2 ≤ 1000) :
    Calls Tryz.prog 104 #[.slice ad1 n1 c1, .slice ad2 n2 c2, .int .i64 f] w (NatPost w m) := (plus_new x y m f hf1 hf2 hm ad1 ad2 c1 c2 n1 n2 w h1 h2 hn1 hn2).mono NatNew.post
set_option maxHeartbeats 2000000 in
theorem multiple_any (y f : Nat) (hf : f < 10000) (ad : Option Addr) (c n : Nat) (w : World) (h : NatAt w ad n c y) (hn : n ≤ 1000) :
    Calls Tryz.prog 142 #[.slice ad n c, .int .i64 (f : Nat)] w (NatPost w (y * f)) := by
  have c1 := fun W (e : w = W) => plus_any3 0 y (y * f) (f : Int) (by omega) (by omega) (by rw [Int.natCast_mul, Int.mul_comm]; simp) none ad 0 c 0 n W ⟨rfl, HoldI.nil _ _ _⟩ (by rw [← e]; exact h) (by omega) hn
  have C1 := Lib.hid c1
  clear c1 h
  go_enter Tryz.func142, Tryz.ntmps142
  go_wp2_with fail
  refine (C1.out _ rfl).mono ?_
  rintro e w1 ⟨ad1, cap1, m1, rfl, h1, h2, h3⟩
  go_wp2
  go_ret
  exact ⟨ad1, cap1, m1, rfl, h1, h2, h3⟩
end Go.Proofs.YtlcibnmcannapaaGreatDoor
