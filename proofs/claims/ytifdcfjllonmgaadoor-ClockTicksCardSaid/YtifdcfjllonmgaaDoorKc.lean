/-
  Layer 8, the program: Reading.
-/
import Derived.Test.YtifdcfjllonmgaaDoorKb
namespace Go.Proofs.YtifdcfjllonmgaaDoor
open Go Go.Proofs Go.RowKit Go.Lib

theorem minN_one (dr t : Int) (l : List An) (h : 0 < l.length) : minN dr t (l.take 1) = lastN l[0] dr t := by
  cases l with
  | nil => exact absurd h (Nat.not_lt_zero _)
  | cons a l => rfl
set_option maxRecDepth 100000 in
set_option maxHeartbeats 8000000 in
theorem reading_u (x : Cl) (ad : Option Addr) (cp : Nat) (t : Int) (hl : x.an.length ≤ maxLen) (hcp : x.an.length ≤ cp) (w : World) (hI : RL KA w ad x.an) :
    Calls Tryd.prog 27 #[.agg #[.int .i64 x.dr, .slice ad x.an.length cp], .int .i64 t] w fun e w' => e = .returned (.tuple #[.int .i64 (readV x t), .int .i64 (readE x t)]) ∧ Below w.heap.size w w' := by
  obtain ⟨RV, hRV⟩ : ∃ RV, readV x t = RV := ⟨_, rfl⟩
  obtain ⟨RE, hRE⟩ : ∃ RE, readE x t = RE := ⟨_, rfl⟩
  rw [hRV, hRE]
  have HNO := Lib.hid (fun h : readB x t = false => show RV = 0 ∧ RE = 80 by rw [← hRV, ← hRE]; unfold readV readE; simp [h])
  have HYES := Lib.hid (fun h : readB x t = true => show RV = minN x.dr t x.an ∧ RE = 0 by rw [← hRV, ← hRE]; exact ⟨readV_min h, readE_yes h⟩)
  have HRB := Lib.hid (show readB x t = (ckB x && tmB t) from rfl)
  obtain ⟨w1, V1, Z1, K1, B1⟩ := lay8 w [.int .i64 x.dr, .slice ad x.an.length cp] 50
  have CV := Lib.hid (validClock_u (.agg #[.int .i64 x.dr, .slice ad x.an.length cp]) x w1 ⟨ad, cp, rfl, hI.below B1⟩ hl)
  have CT := Lib.hid (fun W => isTime_u t W)
  have HK1 := Lib.hid K1
  have HB1 := Lib.hid B1
  have HI := Lib.hid hI
  obtain ⟨x0, _⟩ := K1 0 (by simp); obtain ⟨x1, _⟩ := K1 1 (by simp)
  simp only [List.getElem_cons_zero, List.getElem_cons_succ] at x0 x1
  clear hRV hRE K1 B1 hI hl
  go_enter Tryd.func27, Tryd.ntmps27
  go_wp2_with fail
  refine (CV.out).mono ?_
  rintro e w2 ⟨rfl, hb⟩
  have HB2 := Lib.hid (show Below (w.heap.size + 1) w1 w2 by rw [← Z1]; exact hb)
  have HBW := Lib.hid (show Below w.heap.size w w2 from HB1.out.trans (hb.mono (by omega)))
  clear hb x0 x1 V1
  cases hv : ckB x with
  | false =>
    have HF := Lib.hid (HNO.out (by rw [HRB.out, hv]; rfl))
    clear hv
    go_wp2_with fail
    go_ret2
    exact ⟨by rw [HF.out.1, HF.out.2]; rfl, HBW.out⟩
  | true =>
    cases ht : tmB t with
    | false =>
      have HF := Lib.hid (HNO.out (by rw [HRB.out, hv, ht]; rfl))
      rw [ht] at CT
      clear hv ht
      go_wp2_with (first | (go_at_call 54; refine (CT.out _).mono ?_; rintro e z ⟨rfl, rfl⟩))
      go_ret2
      exact ⟨by rw [HF.out.1, HF.out.2]; rfl, HBW.out⟩
    | true =>
      have HF := Lib.hid (HYES.out (by rw [HRB.out, hv, ht]; rfl))
      obtain ⟨hall, ⟨d0, d1⟩, _, hne⟩ := ckB_of hv
      have hn : 1 ≤ x.an.length := List.length_pos_iff.2 hne
      obtain ⟨t0, t1⟩ := of_inB ht
      rw [ht] at CT
      have HLB := Lib.hid (fun (a : An) (ha : anB a = true) W => lastBegun_u a x.dr t ha d0 d1 t0 t1 W)
      have HALL := Lib.hid hall
      obtain ⟨b, o, rfl, hb1, hc0⟩ := HI.out.an 0 hn
      have HC := Lib.hid (show ∀ k (hk : k < x.an.length) W, Below w.heap.size w W → W.cell? ⟨b, o + 2 * k, none⟩ = some (.int .i64 (x.an[k]'hk).a) ∧ W.cell? ⟨b, o + 2 * k + 1, none⟩ = some (.int .i64 (x.an[k]'hk).t) from fun k hk W bw => by
        obtain ⟨b', o', e, _, h⟩ := HI.out.an k hk
        injection e with e
        injection e with e1 e2
        subst e1 e2
        exact h W bw)
      obtain ⟨AD, hsl, had⟩ := slice_from8 b o x.an.length cp hn hcp
      have HST := Lib.hid (fun k h1 hk => minN_step x.dr t x.an k h1 hk)
      have HM1 := Lib.hid (show minN x.dr t (x.an.take 1) = lastN (x.an[0]'hn) x.dr t from minN_one x.dr t x.an hn)
      have HLA := Lib.hid (HLB.out _ (HALL.out _ (List.getElem_mem hn)))
      have hi0 := fun W => at_an8 b o x.an.length cp 0 hn W
      have hn2 : (0 : Int) < (x.an.length : Int) := by omega
      simp only [Nat.mul_zero, Nat.add_zero, Int.ofNat_zero] at hi0
      have HC0 := Lib.hid (fun W bw => HC.out 0 hn W bw)
      simp only [Nat.mul_zero, Nat.add_zero] at HC0
      have HXC := Lib.hid (show ∀ W, Below (w.heap.size + 1) w1 W → W.cell? ⟨w.heap.size, 0, none⟩ = some (.int .i64 x.dr) ∧ W.cell? ⟨w.heap.size, 1, none⟩ = some (.slice (some ⟨b, o, none⟩) x.an.length cp) from fun W bw => ⟨(HK1.out.up bw (by omega) 0 (by simp)).1, (HK1.out.up bw (by omega) 1 (by simp)).1⟩)
      have hz2 : w.heap.size + 1 ≤ w2.heap.size := by have := HB2.out.size; omega
      generalize x.an[0]'hn = a0 at *
      clear hv ht hc0 hb1 hne
      go_upto_region 3 with (first | (go_at_call 54; refine (CT.out _).mono ?_; rintro e z ⟨rfl, rfl⟩))
      refine wp_region_noPanic ?_
      refine wp_region_Kx (C := Grew z) [7, 8] 7 #[false, false, false, false, false, false, false, false, false] (by kernel_rfl) (by kernel_rfl) (by kernel_rfl) (grew0 _) ?_
      intro wx hwx
      refine wpAnyK_ex (i := 0) rfl (by kernel_rfl) (listed' := #[true, false, false, false, false, false, false, false, false]) rfl (fun _ _ _ _ _ h => h) hwx ?_
      apply Exists.intro
      refine ⟨⟨by rfl, fun wy hw => ?_⟩, ?_⟩
      · (have bw := hw.below; go_simp; try (first | (with_reducible rfl) | (with_reducible exact ⟨rfl, rfl⟩)))
      try simp only [Act.put]
      refine wpAnyK_ex (i := 1) rfl (by kernel_rfl) (listed' := #[true, true, false, false, false, false, false, false, false]) rfl (fun _ _ _ _ _ h => h) hwx ?_
      apply Exists.intro
      refine ⟨⟨by rfl, fun wy hw => ?_⟩, ?_⟩
      · (have bw := hw.below; obtain ⟨y0, y1⟩ := HXC.out _ (HB2.out.trans (bw.mono hz2)); go_simp; try (first | (with_reducible rfl) | (with_reducible exact ⟨rfl, rfl⟩)))
      try simp only [Act.put]
      refine wpAnyK_ex (i := 2) rfl (by kernel_rfl) (listed' := #[true, true, true, false, false, false, false, false, false]) rfl (fun _ _ _ _ _ h => h) hwx ?_
      apply Exists.intro
      refine ⟨⟨by rfl, fun wy hw => ?_⟩, ?_⟩
      · (have bw := hw.below; go_simp; try (first | (with_reducible rfl) | (with_reducible exact ⟨rfl, rfl⟩)))
      try simp only [Act.put]
      refine wpAnyK_ex (i := 3) rfl (by kernel_rfl) (listed' := #[true, true, true, true, false, false, false, false, false]) rfl (fun _ _ _ _ _ h => h) hwx ?_
      apply Exists.intro
      refine ⟨⟨by rfl, fun wy hw => ?_⟩, ?_⟩
      · (have bw := hw.below; obtain ⟨v0, v1⟩ := HC0.out _ (HBW.out.trans (bw.mono (by omega))); go_simp; try (first | (with_reducible rfl) | (with_reducible exact ⟨rfl, rfl⟩)))
      try simp only [Act.put]
      refine wpAnyK_ex (i := 4) rfl (by kernel_rfl) (listed' := #[true, true, true, true, true, false, false, false, false]) rfl (fun _ _ _ _ _ h => h) hwx ?_
      apply Exists.intro
      refine ⟨⟨by rfl, fun wy hw => ?_⟩, ?_⟩
      · (have bw := hw.below; go_simp; try (first | (with_reducible rfl) | (with_reducible exact ⟨rfl, rfl⟩)))
      try simp only [Act.put]
      refine wpAnyK_ex (i := 5) rfl (by kernel_rfl) (listed' := #[true, true, true, true, true, true, false, false, false]) rfl (fun _ _ _ _ _ h => h) hwx ?_
      apply Exists.intro
      refine ⟨⟨by rfl, fun wy hw => ?_⟩, ?_⟩
      · (have bw := hw.below; obtain ⟨y0, y1⟩ := HXC.out _ (HB2.out.trans (bw.mono hz2)); go_simp; try (first | (with_reducible rfl) | (with_reducible exact ⟨rfl, rfl⟩)))
      try simp only [Act.put]
      refine wpAnyK_ex (i := 6) rfl (by kernel_rfl) (listed' := #[true, true, true, true, true, true, true, false, false]) rfl (fun _ _ _ _ _ h => h) hwx ?_
      apply Exists.intro
      refine ⟨⟨by rfl, fun wy hw => ?_⟩, ?_⟩
      · (have bw := hw.below; go_simp; try (first | (with_reducible rfl) | (with_reducible exact ⟨rfl, rfl⟩)))
      try simp only [Act.put]
      refine wpAnyK_end (by kernel_rfl) ?_
      try simp only [pickOps, List.filterMap_cons, List.filterMap_nil, List.getElem?_toArray, List.getElem?_cons_succ, List.getElem?_cons_zero]
      have HBX := Lib.hid (show Below (w.heap.size + 1) w1 wx from HB2.out.trans (hwx.below.mono hz2))
      clear hwx
      go_wp2_with fail
      refine (HLA.out _).mono ?_
      rintro e w3 ⟨rfl, hb3⟩
      have HB3 := Lib.hid (show Below (w.heap.size + 1) w1 w3 from HBX.out.trans (hb3.mono (by have := HBX.out.size; omega)))
      clear hb3
      obtain ⟨y0, y1⟩ := HXC.out w3 HB3.out
      go_wp2_with fail
      refine NoPanic.normal ?_
      go_wp2_with fail
      go_loopw [6, 29] (fun m i wr => ∃ k : Nat, k ≤ x.an.length - 1 ∧ i = .int .i64 k ∧ m = .int .i64 (minN x.dr t (x.an.take (k + 1))) ∧ Hid (Below (w.heap.size + 1) w1 wr)) (fun _ i _ => x.an.length - 1 - (RowKit.intOf i).toNat)
      case atStart => exact ⟨0, Nat.zero_le _, rfl, by rw [HM1.out], HB3⟩
      case round =>
        obtain ⟨k, hk, rfl, rfl, HB⟩ := hrel
        clear y0 y1
        obtain ⟨y0, y1⟩ := HXC.out wr HB.out
        by_cases hlt : k < x.an.length - 1
        · have hki : (k : Int) < ((x.an.length - 1 : Nat) : Int) := by omega
          have hk1 : k + 1 < x.an.length := by omega
          have had2 := had (by omega)
          subst had2
          have hik := fun W => at_an8 b (o + 2) (x.an.length - 1) (cp - 1) k hlt W
          obtain ⟨v0, v1⟩ := HC.out (k + 1) hk1 wr (HB1.out.trans (HB.out.mono (by omega)))
          have HS := Lib.hid (HST.out (k + 1) (by omega) hk1)
          have HLT := Lib.hid hlt
          have HL2 := Lib.hid (HLB.out _ (HALL.out _ (List.getElem_mem hk1)))
          rw [show o + 2 * (k + 1) = o + 2 + 2 * k by omega] at v0 v1
          generalize x.an[k + 1]'hk1 = a at *
          generalize minN x.dr t (x.an.take (k + 1)) = M at *
          have hwz : w.heap.size + 1 ≤ wr.heap.size := by have := HB.out.size; omega
          obtain ⟨w5, V5, Z5, K5, B5⟩ := lay8 wr [.int .i64 a.a, .int .i64 a.t] 60
          obtain ⟨p0, _⟩ := K5 0 (by simp); obtain ⟨p1, _⟩ := K5 1 (by simp)
          simp only [List.getElem_cons_zero, List.getElem_cons_succ] at p0 p1
          have HB5 := Lib.hid (show Below (w.heap.size + 1) w1 w5 from HB.out.trans (B5.mono hwz))
          obtain ⟨y2, y3⟩ := HXC.out w5 HB5.out
          clear K5 B5 hk1 hlt
          go_wp2_with fail
          refine (HL2.out _).mono ?_
          rintro e w6 ⟨rfl, hb6⟩
          have HB6 := Lib.hid (show Below (w.heap.size + 1) w1 w6 from HB5.out.trans (hb6.mono (by omega)))
          clear hb6 p0 p1 y0 y1 y2 y3 v0 v1 V5
          generalize lastN a x.dr t = L at *
          go_wp2_with fail
          all_goals (
            go_roundw
            case rel => exact ⟨k + 1, HLT.out, by go_num, by rw [HS.out]; congr 1; omega, HB6⟩
            case measure => have h9 := HLT.out; simp [RowKit.intOf]; omega)
        · have hke : k = x.an.length - 1 := by omega
          have HR := Lib.hid (show minN x.dr t (x.an.take (k + 1)) = RV by rw [HF.out.1, hke, List.take_of_length_le (by omega)])
          have hki : ¬ (k : Int) < ((x.an.length - 1 : Nat) : Int) := by omega
          have hki2 : decide ((k : Int) < ((x.an.length - 1 : Nat) : Int)) = false := decide_eq_false hki
          clear hke hlt
          go_wp2_with fail
          go_ret2
          exact ⟨by rw [HF.out.2, ← HR.out]; rfl, HB1.out.trans (HB.out.mono (by omega))⟩
end Go.Proofs.YtifdcfjllonmgaaDoor
