/-
  The contract of package integer's natural.root.
-/
import Derived.Test.YtildgpahacaglaaDoorRoot1
namespace Go.Proofs.YtildgpahacaglaaDoor
open Go Go.Proofs Go.RowKit Go.Lib

theorem shift_two (x k : Nat) : x / 10000 ^ (2 * k) = (grps x).getD (2 * k) 0 + 10000 * (grps x).getD (2 * k + 1) 0 + 100000000 * (x / 10000 ^ (2 * (k + 1))) := by
  have h1 : ∀ j, x / 10000 ^ j = (grps x).getD j 0 + 10000 * (x / 10000 ^ (j + 1)) := by
    intro j
    have e1 := grps_shift x j
    have e2 := grps_shift x (j + 1)
    have v1 := valG_grps (x / 10000 ^ j)
    have v2 := valG_grps (x / 10000 ^ (j + 1))
    rw [← e1] at v1
    rw [← e2] at v2
    rcases Nat.lt_or_ge j (grps x).length with h | h
    · rw [valG_drop_cons h] at v1
      omega
    · rw [List.drop_of_length_le h] at v1
      rw [List.drop_of_length_le (by omega)] at v2
      rw [List.getD_eq_getElem?_getD, List.getElem?_eq_none h]
      simp [valG] at v1 v2
      simp
      omega
  have a := h1 (2 * k)
  have b := h1 (2 * k + 1)
  rw [show 2 * k + 1 + 1 = 2 * (k + 1) by omega] at b
  omega

set_option maxRecDepth 100000 in
set_option maxHeartbeats 16000000 in
theorem root_any3 (x : Nat) (ad : Option Addr) (c nx : Nat) (w : World) (h : NatAt w ad nx c x) (hn : nx ≤ 900) :
    Calls Tryd.prog 39 #[.slice ad nx c] w fun e w' => ∃ r, (r * r ≤ x ∧ x < (r + 1) * (r + 1)) ∧ NatPost w r e w' := by
  have hxl := (grps_length_iff nx x).1 (Nat.le_of_eq h.1)
  have hst : RootGInv (x / 10000 ^ (2 * ((nx + 1) / 2))) 0 0 := by
    rw [Nat.div_eq_of_lt (Nat.lt_of_lt_of_le hxl (Nat.pow_le_pow_right (by decide) (by omega)))]
    exact rootG_zero
  have hi0 : Int.tdiv ((nx : Int) + 1) 2 = (((nx + 1) / 2 : Nat) : Int) := by rw [Int.tdiv_eq_ediv_of_nonneg (by omega)]; omega
  obtain ⟨k0, hk0⟩ : ∃ k, (nx + 1) / 2 = k := ⟨_, rfl⟩
  rw [hk0] at hst hi0
  have hw1 : IntKind.i64.wrap ((nx : Int) + 1) = (nx : Int) + 1 := IntWalk.i64_in _ (by omega)
  have hw2 : IntKind.i64.wrap (k0 : Int) = (k0 : Int) := IntWalk.i64_in _ (by omega)
  have hw3 : IntKind.i64.wrap ((k0 : Int) * 2) = ((2 * k0 : Nat) : Int) := by rw [IntWalk.i64_in _ (by omega)]; omega
  obtain ⟨i0, hi00⟩ : ∃ i, 2 * k0 = i := ⟨_, rfl⟩
  rw [hi00] at hw3
  have H := Lib.hid h; have HXL := Lib.hid hxl; have HST := Lib.hid hst; have HI0 := Lib.hid hi00
  clear h hxl hst hi00
  go_enter Tryd.func39, Tryd.ntmps39
  go_wp2_with fail
  go_loopw [3, 4, 5] (fun vr vs vi wr => ∃ (k i r s : Nat) (ad1 ad2 : Option Addr) (c1 c2 m1 m2 : Nat), vr = .slice ad1 m1 c1 ∧ vs = .slice ad2 m2 c2 ∧ vi = .int .i64 ((i : Nat) : Int) ∧ Hid (2 * k = i) ∧ i ≤ nx + 1 ∧ Hid (NatAt wr ad1 m1 c1 r) ∧ Hid (NatAt wr ad2 m2 c2 s) ∧ Hid (RootGInv (x / 10000 ^ (2 * k)) r s) ∧ Hid (Below w.heap.size w wr)) (fun _ _ vi _ => (RowKit.intOf vi).toNat)
  case atStart => exact ⟨k0, i0, 0, 0, none, none, 0, 0, 0, 0, rfl, rfl, rfl, HI0.out, by have := HI0.out; omega, ⟨rfl, HoldI.nil _ _ _⟩, ⟨rfl, HoldI.nil _ _ _⟩, HST.out, Below.refl _ _⟩
  case round =>
    obtain ⟨k, i, r, s, a1, a2, k1, k2, m1, m2, rfl, rfl, rfl, hki, hin, hr, hs, hri, hbr⟩ := hrel
    have hnr : RootGInv (x / 10000 ^ (2 * k)) r s := hri.out
    have hq : x / 10000 ^ (2 * k) ≤ x := Nat.div_le_self _ _
    have hrx : r < 10000 ^ nx := by
      have h1 := HXL.out
      have h2 : r ≤ r * r := Nat.le_mul_self r
      have := hnr.1
      omega
    have hsx : s < 10000 ^ nx := by
      have h1 := HXL.out
      have := hnr.1
      omega
    have hrl : m1 ≤ nx := by have := grps_length_le nx r hrx; have := hr.out.1; omega
    have hsl : m2 ≤ nx := by have := grps_length_le nx s hsx; have := hs.out.1; omega
    clear hrx hsx hq hnr
    by_cases hi : i = 0
    · subst hi
      obtain rfl : k = 0 := by have := hki.out; omega
      have hE := rootG_end hri.out
      rw [Nat.mul_zero, Nat.pow_zero, Nat.div_one] at hE
      have HE := Lib.hid hE
      clear hE hri hki
      go_wp2_with fail
      go_ret
      exact ⟨r, HE.out, a1, k1, m1, rfl, hr.out.1, hr.out.2, hbr.out⟩
    · obtain ⟨k', rfl⟩ : ∃ k', k = k' + 1 := ⟨k - 1, by have := hki.out; omega⟩
      have hki2 : 2 * k' + 2 = i := by have := hki.out; omega
      have hip : (0 : Int) < (i : Int) := by omega
      have hw4 : IntKind.i64.wrap ((i : Int) - 1) = (i : Int) - 1 := IntWalk.i64_in _ (by omega)
      have hw5 : IntKind.i64.wrap ((i : Int) - 2) = (i : Int) - 2 := IntWalk.i64_in _ (by omega)
      obtain ⟨l, hl⟩ : ∃ l, grps x = l := ⟨_, rfl⟩
      have hx1 := H.out.1
      have hx2 := H.out.2
      have hg := grps_lt x
      have hsh := shift_two x k'
      rw [hl] at hx1 hx2 hg hsh
      obtain ⟨ga, oa, rfl, hga, hsa⟩ := hx2.at (by omega)
      obtain ⟨f, hf⟩ : ∃ f, l.getD (2 * k' + 1) 0 = f := ⟨_, rfl⟩
      obtain ⟨f2, hf2⟩ : ∃ f, l.getD (2 * k') 0 = f := ⟨_, rfl⟩
      have hfl := getG_grp hg (2 * k' + 1)
      have hfl2 := getG_grp hg (2 * k')
      rw [hf] at hfl hsh
      rw [hf2] at hfl2 hsh
      have hj2 := fun w => atN ga oa nx c (2 * k') ((i : Int) - 2) (by omega) (by omega) w
      have hcell2 := hsa (2 * k') (by omega)
      rw [hf2] at hcell2
      have hfirst : ((i : Int) ≤ (nx : Int) ∧ (∀ w, (Instr.indexAt 49 (.slice (some ⟨ga, oa, none⟩) nx c) (.int .i64 ((i : Int) - 1))).run Tryd.prog w = .ok (.pointer (some ⟨ga, oa + (2 * k' + 1), none⟩)) w) ∧ wr.cell? ⟨ga, oa + (2 * k' + 1), none⟩ = some (.int .i64 (f : Int))) ∨ (¬ (i : Int) ≤ (nx : Int) ∧ f = 0) := by
        by_cases hle : i ≤ nx
        · left
          refine ⟨by omega, fun w => atN ga oa nx c (2 * k' + 1) ((i : Int) - 1) (by omega) (by omega) w, ?_⟩
          have := hsa (2 * k' + 1) (by omega)
          rw [hf] at this
          exact (hbr.out.cell (p := ⟨ga, oa + (2 * k' + 1), none⟩) hga).trans this
        · right
          refine ⟨by omega, ?_⟩
          rw [← hf, List.getD_eq_getElem?_getD, List.getElem?_eq_none (by omega)]
          rfl
      have hkeep : ∀ W, Below wr.heap.size wr W → W.cell? ⟨ga, oa + 2 * k', none⟩ = some (.int .i64 (f2 : Int)) := fun W b => ((below_of hbr.out b).cell (p := ⟨ga, oa + 2 * k', none⟩) hga).trans hcell2
      have k1' : ∀ W, Below wr.heap.size wr W → ∀ z : Int, z = (f : Nat) → Calls Tryd.prog 54 #[.slice a2 m2 k2, .int .i64 z] W (NatPost W (f + 10000 * s)) := fun W b z hz => by
        subst hz
        exact followed_any s f hfl a2 k2 m2 W (hs.out.below b (Nat.le_refl _)) (by omega)
      have k2' := fun W0 W (b : Below W0.heap.size W0 W) ad' c' m' (hm' : (grps (f + 10000 * s)).length = m') (hh : HoldI W0 ad' c' (grps (f + 10000 * s))) => followed_any (f + 10000 * s) f2 hfl2 ad' c' m' W ⟨hm', hh.below b (Nat.le_refl _)⟩ (by have := len_followed (d := f) (Nat.le_of_eq hs.out.1) hfl; omega)
      obtain ⟨S, hS⟩ : ∃ S, f2 + 10000 * (f + 10000 * s) = S := ⟨_, rfl⟩
      rw [hS] at k2'
      have hSl : (grps S).length ≤ m2 + 2 := by rw [← hS]; exact len_followed (len_followed (Nat.le_of_eq hs.out.1) hfl) hfl2
      have hSe : f2 + 10000 * f + 100000000 * s = S := by omega
      have hstep := fun g hg' (h1 : (g + 10000 * (2 * r)) * g ≤ S) (h2 : g = 9999 ∨ S < ((g + 1) + 10000 * (2 * r)) * (g + 1)) => rootG_step (low := f2 + 10000 * f) (g := g) hri.out (by omega) hg' (by rw [hSe]; exact h1) (by rw [hSe]; exact h2)
      rw [hSe, ← hsh] at hstep
      have km := fun W0 (b0 : Below wr.heap.size wr W0) => multiple_any r 2 (by omega) a1 k1 m1 W0 (hr.out.below b0 (Nat.le_refl _)) (by omega)
      rw [show ((2 : Nat) : Int) = 2 from rfl, Nat.mul_comm r 2] at km
      obtain ⟨T, hT⟩ : ∃ T, 2 * r = T := ⟨_, rfl⟩
      rw [hT] at km hstep
      have hTl : (grps T).length ≤ m1 + 1 := by rw [← hT, Nat.mul_comm]; exact len_times (Nat.le_of_eq hr.out.1) (by omega)
      have hrel5 : ((i : Int) - 2) = ((i - 2 : Nat) : Int) ∧ 2 * k' = i - 2 ∧ i - 2 ≤ nx + 1 := ⟨by omega, by omega, by omega⟩
      have HR5 := Lib.hid hrel5
      clear hrel5
      have HKI := Lib.hid hki2; have K1 := Lib.hid k1'; have K2 := Lib.hid k2'; have KM := Lib.hid km; have HK := Lib.hid hkeep; have HSL := Lib.hid hSl; have HTL := Lib.hid hTl; have HSTEP := Lib.hid hstep
      clear k1' k2' km hkeep hSl hTl hstep hS hSe hT hsh hcell2 hf hf2 hx1 hx2 hl hsa hri hki hi hki2
      rcases hfirst with ⟨hle, hj1, hcell1⟩ | ⟨hle, hf0⟩
      all_goals (
        try (have HF0 := Lib.hid hf0; clear hf0)
        go_wp2_with fail
        go_region_held3 (fun W => W.cell? ⟨ga, oa + 2 * k', none⟩ = some (.int .i64 (f2 : Int)))
          (first | exact HK.out _ ⟨rfl, rfl, rfl, Nat.le_refl _, fun _ _ => rfl⟩ | exact HK.out _ ⟨hb1.os, hb1.tape, hb1.output, hb1.size, hb1.block⟩ | exact HK.out _ ⟨hb2.os, hb2.tape, hb2.output, hb2.size, hb2.block⟩)
          (first | (go_at_call 54; (with_reducible refine (K1.out _ ?_ _ ?_).mono ?_); exact ⟨rfl, rfl, rfl, Nat.le_refl _, fun _ _ => rfl⟩; (first | rfl | (rw [HF0.out]; rfl)); (rintro e w1 ⟨ad1, cap1, q1, rfl, hm1, hh1, hb1'⟩); have hb1 : Below wr.heap.size wr w1 := ⟨hb1'.os, hb1'.tape, hb1'.output, hb1'.size, hb1'.block⟩) | (go_at_call 54; (with_reducible refine (K2.out w1 _ ?_ _ _ _ hm1 hh1).mono ?_); exact ⟨rfl, rfl, rfl, Nat.le_refl _, fun _ _ => rfl⟩; rintro e w2 ⟨ad2, cap2, q2, rfl, hm2, hh2, hb2'⟩; have hb2 : Below wr.heap.size wr w2 := below_of hb1 ⟨hb2'.os, hb2'.tape, hb2'.output, hb2'.size, hb2'.block⟩))
        all_goals (
          have hs' : NatAt w2 ad2 q2 cap2 S := ⟨hm2, hh2⟩
          have hq2 : q2 ≤ 902 := by have := HSL.out; omega
          have HS2 := Lib.hid hs'; have HB2 := Lib.hid hb2; have CM := Lib.hid (KM.out w2 hb2)
          clear hb1 hb1' hb2 hb2' hm1 hh1 hm2 hh2 hs'
          go_wp2_with fail
          refine CM.out.mono ?_
          rintro e w3 ⟨ad3, cap3, q3, rfl, hm3, hh3, hb3⟩
          have hq3 : q3 ≤ 901 := by have := HTL.out; omega
          obtain ⟨W4, hW4⟩ : ∃ W4, ((w3.alloc (.cells #[.slice ad3 q3 cap3] 49)).alloc (.cells #[.func (.func 56) #[] #[.pointer (some ⟨w3.heap.size, 0, none⟩)]] 73)).alloc (.cells #[.func (.func 46) #[.slice ad2 q2 cap2] #[]] 65) = W4 := ⟨_, rfl⟩
          have hb4 : Below w3.heap.size w3 W4 := by rw [← hW4]; exact (((Below.refl _ _).alloc (Nat.le_refl _) _).alloc (by simp) _).alloc (by simp; omega) _
          have x1 : Boxed W4 w3.heap.size 49 (.slice ad3 q3 cap3) := by rw [← hW4]; exact ((Boxed.new w3 _ _).alloc _).alloc _
          have x2 : Boxed W4 (w3.heap.size + 1) 73 (.func (.func 56) #[] #[.pointer (some ⟨w3.heap.size, 0, none⟩)]) := by
            rw [← hW4]
            have := Boxed.new (w3.alloc (.cells #[.slice ad3 q3 cap3] 49)) 73 (.func (.func 56) #[] #[.pointer (some ⟨w3.heap.size, 0, none⟩)])
            rw [World.size_alloc] at this
            exact this.alloc _
          have x3 : Boxed W4 (w3.heap.size + 2) 65 (.func (.func 46) #[.slice ad2 q2 cap2] #[]) := by
            rw [← hW4]
            have := Boxed.new ((w3.alloc (.cells #[.slice ad3 q3 cap3] 49)).alloc (.cells #[.func (.func 56) #[] #[.pointer (some ⟨w3.heap.size, 0, none⟩)]] 73)) 65 (.func (.func 46) #[.slice ad2 q2 cap2] #[])
            rw [World.size_alloc, World.size_alloc] at this
            exact this
          have b4 := below_of (below_of HB2.out hb3) hb4
          have hs4 := (HS2.out.below hb3 (Nat.le_refl _)).below hb4 (Nat.le_refl _)
          have ht4 : NatAt W4 ad3 q3 cap3 T := ⟨hm3, hh3.below hb4 (Nat.le_refl _)⟩
          have cl := root_last S T ad2 ad3 cap2 cap3 q2 q3 (w3.heap.size + 2) (w3.heap.size + 1) w3.heap.size W4 hs4 ht4 (by omega) x3.lt x2.lt x1.lt x3.cell x2.cell x1.cell
          have hst1 : ∀ u, (store ⟨w3.heap.size + 1, 0, none⟩ (.func (.func 56) #[] #[.pointer (some ⟨w3.heap.size, 0, none⟩)])).run Tryd.prog ((w3.alloc (.cells #[.slice ad3 q3 cap3] 49)).alloc (.cells #[u] 73)) = .ok () ((w3.alloc (.cells #[.slice ad3 q3 cap3] 49)).alloc (.cells #[.func (.func 56) #[] #[.pointer (some ⟨w3.heap.size, 0, none⟩)]] 73)) := fun u => by
            have := store_new (w3.alloc (.cells #[.slice ad3 q3 cap3] 49)) (.func (.func 56) #[] #[.pointer (some ⟨w3.heap.size, 0, none⟩)]) u 73 rfl
            rw [World.size_alloc] at this
            exact this
          have hst2 : ∀ u, (store ⟨w3.heap.size + 2, 0, none⟩ (.func (.func 46) #[.slice ad2 q2 cap2] #[])).run Tryd.prog (((w3.alloc (.cells #[.slice ad3 q3 cap3] 49)).alloc (.cells #[.func (.func 56) #[] #[.pointer (some ⟨w3.heap.size, 0, none⟩)]] 73)).alloc (.cells #[u] 65)) = .ok () (((w3.alloc (.cells #[.slice ad3 q3 cap3] 49)).alloc (.cells #[.func (.func 56) #[] #[.pointer (some ⟨w3.heap.size, 0, none⟩)]] 73)).alloc (.cells #[.func (.func 46) #[.slice ad2 q2 cap2] #[]] 65)) := fun u => by
            have := store_new ((w3.alloc (.cells #[.slice ad3 q3 cap3] 49)).alloc (.cells #[.func (.func 56) #[] #[.pointer (some ⟨w3.heap.size, 0, none⟩)]] 73)) (.func (.func 46) #[.slice ad2 q2 cap2] #[]) u 65 rfl
            rw [World.size_alloc, World.size_alloc] at this
            exact this
          have HW4 := Lib.hid hW4; have CL := Lib.hid cl; have X1 := Lib.hid x1; have X2 := Lib.hid x2; have B4 := Lib.hid b4; have HS4 := Lib.hid hs4; have HT4 := Lib.hid ht4
          clear hW4 cl x1 x2 x3 b4 hs4 ht4 hb4 hm3 hh3 hb3 CM
          go_wp2_with fail
          rw [HW4.out]
          refine CL.out.mono ?_
          rintro e w5 ⟨⟨g, ⟨hg1, hg2, hg3⟩, rfl⟩, hb5⟩
          have bb := fun W (b : Below w5.heap.size w5 W) => below_of hb5 b
          have hkp : ∀ W, Below w5.heap.size w5 W → W.cell? ⟨w3.heap.size + 1, 0, none⟩ = some (.func (.func 56) #[] #[.pointer (some ⟨w3.heap.size, 0, none⟩)]) := fun W b => ((bb W b).cell (p := ⟨w3.heap.size + 1, 0, none⟩) X2.out.lt).trans X2.out.cell
          have kF := fun W (b : Below w5.heap.size w5 W) => followed_any r g hg1 a1 k1 m1 W (hr.out.below (below_of B4.out (bb W b)) (Nat.le_refl _)) (by omega)
          have kG := fun W (b : Below w5.heap.size w5 W) => growth_any T g hg1 ad3 cap3 q3 w3.heap.size W (HT4.out.below (bb W b) (Nat.le_refl _)) (by omega) (((bb W b).cell (p := ⟨w3.heap.size, 0, none⟩) X1.out.lt).trans X1.out.cell)
          have kP := fun W0 W (b0 : Below w5.heap.size w5 W0) (b : Below W0.heap.size W0 W) ad' c' m' (hm' : (grps ((g + 10000 * T) * g)).length = m') (hh : HoldI W0 ad' c' (grps ((g + 10000 * T) * g))) =>
            plus_any3 S ((g + 10000 * T) * g) (S - (g + 10000 * T) * g) (-1) (by omega) (by omega) (by omega) ad2 ad' cap2 c' q2 m' W (HS4.out.below (bb W (below_of b0 b)) (Nat.le_refl _)) ⟨hm', hh.below b (Nat.le_refl _)⟩ (by omega) (by have := len_times (f := g) (len_followed (d := g) (Nat.le_of_eq HT4.out.1) hg1) hg1; omega)
          have hinv := HSTEP.out g hg1 hg2 hg3
          obtain ⟨D, hD⟩ : ∃ D, S - (g + 10000 * T) * g = D := ⟨_, rfl⟩
          obtain ⟨R2, hR2⟩ : ∃ D, g + 10000 * r = D := ⟨_, rfl⟩
          obtain ⟨GG, hGG⟩ : ∃ D, (g + 10000 * T) * g = D := ⟨_, rfl⟩
          rw [hD] at kP hinv
          rw [hR2] at kF hinv
          rw [hGG] at kG kP
          have KF := Lib.hid kF; have KG := Lib.hid kG; have KP := Lib.hid kP; have HKP := Lib.hid hkp; have HINV := Lib.hid hinv; have B5 := Lib.hid (below_of (below_of hbr.out B4.out) hb5)
          clear kF kG kP hkp hinv bb hb5 hD hR2 hGG hg2 hg3 CL HW4
          go_wp2_with fail
          go_region_held3 (fun W => W.cell? ⟨w3.heap.size + 1, 0, none⟩ = some (.func (.func 56) #[] #[.pointer (some ⟨w3.heap.size, 0, none⟩)]))
            (first | exact HKP.out _ ⟨rfl, rfl, rfl, Nat.le_refl _, fun _ _ => rfl⟩ | exact HKP.out _ hbF | exact HKP.out _ hbG | exact HKP.out _ hbP)
            (first | (go_at_call 54; (with_reducible refine (KF.out _ ?_).mono ?_); (first | exact ⟨rfl, rfl, rfl, Nat.le_refl _, fun _ _ => rfl⟩ | exact hbP | exact hbG); (rintro e wF ⟨adF, cF, qF, rfl, hmF, hhF, hbF'⟩); (first | (have hbF := below_of hbP ⟨hbF'.os, hbF'.tape, hbF'.output, hbF'.size, hbF'.block⟩) | (have hbF := below_of hbG ⟨hbF'.os, hbF'.tape, hbF'.output, hbF'.size, hbF'.block⟩) | (have hbF : Below w5.heap.size w5 wF := ⟨hbF'.os, hbF'.tape, hbF'.output, hbF'.size, hbF'.block⟩))) | (go_at_call 56; (with_reducible refine (KG.out _ ?_).mono ?_); (first | exact ⟨rfl, rfl, rfl, Nat.le_refl _, fun _ _ => rfl⟩ | exact hbF); (rintro e wG ⟨adG, cG, qG, rfl, hmG, hhG, hbG'⟩); (first | (have hbG := below_of hbF ⟨hbG'.os, hbG'.tape, hbG'.output, hbG'.size, hbG'.block⟩) | (have hbG : Below w5.heap.size w5 wG := ⟨hbG'.os, hbG'.tape, hbG'.output, hbG'.size, hbG'.block⟩))) | (go_at_call 45; (with_reducible refine (KP.out wG _ hbG ?_ _ _ _ hmG hhG).mono ?_); (first | exact ⟨rfl, rfl, rfl, Nat.le_refl _, fun _ _ => rfl⟩ | exact hbF'); (rintro e wP ⟨adP, cP, qP, rfl, hmP, hhP, hbP'⟩); (first | (have hbP := below_of (below_of hbG hbF') ⟨hbP'.os, hbP'.tape, hbP'.output, hbP'.size, hbP'.block⟩) | (have hbP := below_of hbG ⟨hbP'.os, hbP'.tape, hbP'.output, hbP'.size, hbP'.block⟩))))
          all_goals (
            have hrel : NatAt wP adF qF cF R2 := ⟨hmF, hhF.below (below_of (show Below wF.heap.size wF wG from ⟨hbG'.os, hbG'.tape, hbG'.output, hbG'.size, hbG'.block⟩) (show Below wG.heap.size wG wP from ⟨hbP'.os, hbP'.tape, hbP'.output, hbP'.size, hbP'.block⟩)) (Nat.le_refl _)⟩
            have hrel2 : NatAt wP adP qP cP D := ⟨hmP, hhP⟩
            have HR1 := Lib.hid hrel; have HR2 := Lib.hid hrel2; have HBP := Lib.hid (below_of B5.out hbP)
            clear hrel hrel2 hbP hbP' hbG hbG' hbF hbF' hmF hhF hmG hhG hmP hhP
            go_wp2
            go_roundw
            case rel => exact ⟨k', i - 2, R2, D, adF, adP, cF, cP, qF, qP, rfl, rfl, congrArg (Value.int .i64) HR5.out.1, HR5.out.2.1, HR5.out.2.2, HR1.out, HR2.out, HINV.out, HBP.out⟩
            case measure => simp [RowKit.intOf]; have := HKI.out; omega)))
end Go.Proofs.YtildgpahacaglaaDoor
