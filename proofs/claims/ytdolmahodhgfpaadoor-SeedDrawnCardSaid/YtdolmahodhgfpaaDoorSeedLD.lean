/-
  SeedDrawn: its walk.
-/
import Derived.Test.YtdolmahodhgfpaaDoorSeedS
import Derived.Deep.CutRange
import Derived.Deep.DeepCutAuto
namespace Go.Proofs.YtdolmahodhgfpaaDoor
open Go Go.Proofs Go.RowKit Go.Lib

/-- Bit t of a text, the first one the greatest. -/
def bitN (D : ByteArray) (t : Nat) : Nat := (natsOf D).getD (t / 8) 0 / 2 ^ (7 - t % 8) % 2
/-- The number that the first bits make. -/
def wantN (D : ByteArray) : Nat → Nat
  | 0 => 0
  | t + 1 => 2 * wantN D t + bitN D t
theorem natsOf_get (D : ByteArray) (k : Nat) (h : k < D.size) : (natsOf D).getD k 0 = D[k].toNat := by
  have hl : k < (natsOf D).length := by unfold natsOf; rw [List.length_map, Array.length_toList]; exact h
  rw [List.getD_eq_getElem?_getD, List.getElem?_eq_getElem hl, Option.getD_some]
  exact List.getElem_map (l := D.data.toList) UInt8.toNat (i := k) (h := hl)
theorem wantN_lt (D : ByteArray) : ∀ t, wantN D t < 2 ^ t
  | 0 => Nat.lt_succ_self 0
  | t + 1 => by
    have := wantN_lt D t
    have hb : bitN D t < 2 := Nat.mod_lt _ (by decide)
    show 2 * wantN D t + bitN D t < 2 ^ (t + 1)
    rw [Nat.pow_succ]
    omega
/-- The bits of one byte more. -/
theorem wantN_byte (D : ByteArray) (k : Nat) (h : k < D.size) (ih : wantN D (8 * k) = headN D k) : ∀ r, r ≤ 8 → wantN D (8 * k + r) = (256 * headN D k + D[k].toNat) / 2 ^ (8 - r)
  | 0, _ => by
    have := D[k].toNat_lt
    rw [Nat.add_zero, ih]
    show _ = _ / 256
    omega
  | r + 1, hr => by
    have ih2 := wantN_byte D k h ih r (by omega)
    have hq : (8 * k + r) / 8 = k := by omega
    have hm : (8 * k + r) % 8 = r := by omega
    show 2 * wantN D (8 * k + r) + bitN D (8 * k + r) = _
    unfold bitN
    rw [hq, hm, natsOf_get D k h, ih2]
    have hb := D[k].toNat_lt
    generalize D[k].toNat = d at *
    generalize headN D k = n at *
    have e : r = 0 ∨ r = 1 ∨ r = 2 ∨ r = 3 ∨ r = 4 ∨ r = 5 ∨ r = 6 ∨ r = 7 := by omega
    rcases e with rfl | rfl | rfl | rfl | rfl | rfl | rfl | rfl <;> simp only [Nat.reduceSub, Nat.reducePow, Nat.reduceAdd, Nat.pow_zero, Nat.pow_one, Nat.div_one] <;> omega
theorem wantN_head (D : ByteArray) : ∀ k, k ≤ D.size → wantN D (8 * k) = headN D k
  | 0, _ => rfl
  | k + 1, hk => by
    have ih := wantN_head D k (by omega)
    have := wantN_byte D k (by omega) ih 8 (Nat.le_refl _)
    rw [headN_step D k (by omega)]
    rw [show 8 * (k + 1) = 8 * k + 8 by omega, this]
    simp
theorem want_raw (D : ByteArray) (h : 7 < D.size) : wantN D 62 = rawN (natsOf D) := by
  have := wantN_byte D 7 h (wantN_head D 7 (by omega)) 6 (by decide)
  rw [rawN_head D h]
  rw [show 62 = 8 * 7 + 6 by decide, this]
  have hb := D[7].toNat_lt
  simp only [Nat.reduceSub, Nat.reducePow]
  omega
set_option maxRecDepth 100000 in
set_option maxHeartbeats 16000000 in
theorem seedDrawn_walk (s : ByteArray) (i bound : Int) (hs : s.size ≤ maxLen) (a0 : -9223372036854775808 ≤ i) (a1 : i ≤ 9223372036854775807) (b0 : -9223372036854775808 ≤ bound) (b1 : bound ≤ 9223372036854775807) (w : World) (hR : Ready w) :
    Calls Tryd.prog 6 #[.string s, .int .i64 i, .int .i64 bound] w fun e w' => e = .returned (.bool true) ∧ Below w.heap.size w w' := by
  have CN := Lib.hid (fun W => name6_any s hs W)
  have K0 := Lib.hid (fun W => pick6_any i 4611686018427387903 a0 a1 (by decide) (by decide) W)
  have K1 := Lib.hid (fun W => pick6_any bound 4611686018427387903 b0 b1 (by decide) (by decide) W)
  have p0l := W1.pickI_lo (c := i) (n := 4611686018427387903) (by decide)
  have p0h := W1.pickI_hi (c := i) (n := 4611686018427387903) (by decide)
  have p1l := W1.pickI_lo (c := bound) (n := 4611686018427387903) (by decide)
  have p1h := W1.pickI_hi (c := bound) (n := 4611686018427387903) (by decide)
  have hx := nameS_size s
  generalize nameS s = X at *
  generalize W1.pickI i 4611686018427387903 = k at *
  generalize W1.pickI bound 4611686018427387903 = x0 at *
  obtain ⟨B, hB⟩ : ∃ B, 1 + x0 = B := ⟨_, rfl⟩
  have hxm : X.size ≤ maxLen := by unfold maxLen; omega
  have hn : namedB X k = true := decide_eq_true ⟨hx.1, hx.2, p0l, by omega⟩
  have CD := Lib.hid (fun W h => draw_u X hxm k B W h)
  have CA := Lib.hid (fun W => W1.putString_yes X (by omega) W)
  have CB := Lib.hid (fun W => W1.putInt_yes k (by omega) (by omega) W)
  have CC := Lib.hid (fun (j : Nat) (hj : j < 64) W => W1.putInt_yes (j : Int) (by omega) (by omega) W)
  have z1 := W1.putS_le X (by omega)
  have z2 := W1.encS_size_le k (by omega) (by omega)
  have ZC := Lib.hid (fun (j : Nat) (hj : j < 64) => W1.encS_size_le (j : Int) (by omega) (by omega))
  have CRW := Lib.hid (fun (j : Nat) (hj : j < 64) W h => show Calls Tryd.prog 13 #[.string X, .int .i64 k, .int .i64 (j : Int)] W fun e w' => e = .returned (.tuple #[.int .i64 ((rawS X k j : Nat) : Int), .int .i64 0]) ∧ Below W.heap.size W w' from by
    have := raw_u X hxm k (j : Int) W h
    rw [(rawV_yes hn hj).1, (rawV_yes hn hj).2] at this
    exact this)
  have HRT := Lib.hid (fun j => show rawS X k j = rawN (natsOf (sha (W1.putS X ++ W1.encS k ++ W1.encS j))) from rfl)
  have HO := Lib.hid (show drawO X k B = drawF X k B 64 0 by unfold drawO; rw [hn]; rfl)
  have CSUM := Lib.hid (fun t (ht : t.size ≤ 1099511627776) W h => sum_any t ht W h)
  have CRD := Lib.hid (fun raw W h => reduce_u raw B W h)
  generalize W1.putS X = PA at *
  generalize W1.encS k = PB at *
  have HZ := Lib.hid (show PA.size ≤ 49 ∧ PB.size ≤ 9 by omega)
  have HB := Lib.hid hB; have HX0 := Lib.hid (show 0 ≤ x0 ∧ x0 < 4611686018427387903 by omega)
  have HBB := Lib.hid (show 1 ≤ B ∧ B ≤ 4611686018427387903 by omega)
  have HR := Lib.hid hR; have SANE := Lib.hid (fun W h => sane6_any W h)
  clear p0l p0h p1l p1h hx hxm hn z1 z2 hB hR a0 a1 b0 b1 hs
  go_enter Tryd.func6, Tryd.ntmps6
  go_wp2_with fail
  refine (SANE.out _ HR.out).mono ?_
  rintro e z1 ⟨rfl, b⟩
  have P1 := Lib.hid b
  clear b
  go_wp2_with fail
  refine (CN.out _).mono ?_
  rintro e z ⟨rfl, rfl⟩
  go_wp2_with fail
  refine (K0.out _).mono ?_
  rintro e z ⟨rfl, rfl⟩
  go_wp2_with fail
  refine (K1.out _).mono ?_
  rintro e z ⟨rfl, rfl⟩
  obtain ⟨x00, x01⟩ := HX0.out
  go_upto_region 5 with fail
  rw [HB.out]
  clear x00 x01
  go_wp2_with fail
  refine (CD.out _ (HR.out.below P1.out)).mono ?_
  rintro e z2 ⟨rfl, b⟩
  have P2 := Lib.hid (below_up6 P1.out b)
  clear b
  go_wp2_with fail
  refine (CA.out _).mono ?_
  rintro e z3 ⟨rfl, b⟩
  have P3 := Lib.hid (below_up6 P2.out b)
  clear b
  go_wp2_with fail
  refine (CB.out _).mono ?_
  rintro e z4 ⟨rfl, b⟩
  have P4 := Lib.hid (below_up6 P3.out b)
  clear b
  go_wp2_with fail
  go_loopw [17] (fun j wr => ∃ n : Nat, n ≤ 64 ∧ j = .int .i64 n ∧ Hid (drawO X k B = drawF X k B (64 - n) n) ∧ Hid (Below w.heap.size w wr)) (fun j _ => 64 - (RowKit.intOf j).toNat)
  case atStart => exact ⟨0, by omega, rfl, HO, P4⟩
  case round =>
    obtain ⟨n, hn, rfl, HK, HBW⟩ := hrel
    by_cases h6 : n < 64
    · have hni : (n : Int) < 64 := by omega
      have HST := Lib.hid (drawF_step (s := X) (i := k) (b := B) h6)
      have H6 := Lib.hid h6; have HNI := Lib.hid hni
      go_wp2_with fail
      refine (CC.out n H6.out _).mono ?_
      rintro e z5 ⟨rfl, b⟩
      have P5 := Lib.hid (below_up6 HBW.out b)
      clear b
      have zc := ZC.out n H6.out
      have hrt := HRT.out (n : Int)
      obtain ⟨PC, hpc⟩ : ∃ t, W1.encS (n : Int) = t := ⟨_, rfl⟩
      rw [hpc] at zc hrt ⊢
      obtain ⟨q1, q2⟩ := HZ.out
      have k1 : PA.size + PB.size ≤ 9223372036854775807 := by omega
      have k2 : PA.size + PB.size + PC.size ≤ 9223372036854775807 := by omega
      have hts : (PA ++ PB ++ PC).size ≤ 1099511627776 := by rw [ByteArray.size_append, ByteArray.size_append]; omega
      have cs := CSUM.out _ hts
      have hds := sha_size (PA ++ PB ++ PC)
      generalize sha (PA ++ PB ++ PC) = D at *
      have CS := Lib.hid cs
      have HW := Lib.hid ((want_raw D (by omega)).trans hrt.symm)
      clear cs hrt hpc zc q1 q2 hts
      go_wp2_with fail
      refine (CS.out _ (HR.out.below P5.out)).mono ?_
      rintro e z6 ⟨rfl, b⟩
      have P6 := Lib.hid (below_up6 P5.out b)
      clear b k1 k2
      go_wp2_with fail
      refine (CRW.out n H6.out _ (HR.out.below P6.out)).mono ?_
      rintro e z7 ⟨rfl, b⟩
      have P7 := Lib.hid (below_up6 P6.out b)
      clear b
      have HR2 := Lib.hid (fun (d : Int) (h : drawO X k B = some d) => drawO_range h)
      have hdz : (D.size : Int) = 32 := by omega
      go_wp2_with fail
      go_loopw [23, 24] (fun v t wr => ∃ m : Nat, m ≤ 62 ∧ t = .int .i64 m ∧ v = .int .i64 ((wantN D m : Nat) : Int) ∧ wr = z7) (fun _ t _ => 62 - (RowKit.intOf t).toNat)
      case atStart => exact ⟨0, by omega, rfl, rfl, rfl⟩
      case round =>
        obtain ⟨m, hm, rfl, rfl, rfl⟩ := hrel
        by_cases hm6 : m < 62
        · have hmi : (m : Int) < 62 := by omega
          obtain ⟨q, hq⟩ : ∃ q, m / 8 = q := ⟨_, rfl⟩
          obtain ⟨r, hr⟩ : ∃ r, m % 8 = r := ⟨_, rfl⟩
          have hq2 : q < D.size := by omega
          have hqi : (q : Int) < 32 := by omega
          have hr8 : r < 8 := by omega
          have hQ : ((m : Int)).tdiv 8 = (q : Int) := by rw [Int.tdiv_eq_ediv_of_nonneg (by omega)]; omega
          have hQ2 : (m : Int) / 8 = (q : Int) := by omega
          have hO : ((m : Int)).tmod 8 = (r : Int) := by rw [Int.tmod_eq_emod_of_nonneg (by omega)]; omega
          have hO2 : (m : Int) % 8 = (r : Int) := by omega
          have hb8 : D[q].toNat < 256 := D[q].toNat_lt
          have hlt := wantN_lt D m
          have hle : wantN D m < 4611686018427387904 := Nat.lt_of_lt_of_le hlt (by
            have := Nat.pow_le_pow_right (n := 2) (by decide) (show m ≤ 61 by omega)
            exact Nat.le_trans this (by decide))
          have hle2 : wantN D m < 2305843009213693952 := Nat.lt_of_lt_of_le hlt (by
            have := Nat.pow_le_pow_right (n := 2) (by decide) (show m ≤ 61 by omega)
            exact Nat.le_trans this (by decide))
          have HSTEP := Lib.hid (show wantN D (m + 1) = 2 * wantN D m + D[q].toNat / 2 ^ (7 - r) % 2 by
            show 2 * wantN D m + bitN D m = _
            unfold bitN
            rw [hq, hr, natsOf_get D q hq2])
          obtain ⟨bb, hbb⟩ : ∃ b, D[q].toNat / 2 ^ (7 - r) % 2 = b := ⟨_, rfl⟩
          have hb2 : bb < 2 := by rw [← hbb]; exact Nat.mod_lt _ (by decide)
          have hbit : ((D[q].toNat : Int) / 2 ^ (7 - r)).tmod 2 = (bb : Int) := by
            rw [← hbb, Int.tmod_eq_emod_of_nonneg (Int.ediv_nonneg (by omega) (Int.le_of_lt (Int.pow_pos (by decide))))]
            simp
          rw [hbb] at HSTEP
          clear hbb
          generalize wantN D m = v at *
          clear hlt
          go_wp2_with fail
          go_roundw
          case rel => exact ⟨m + 1, by omega, by go_num, congrArg (Value.int .i64) (by rw [HSTEP.out]; omega), trivial⟩
          case measure => simp [RowKit.intOf]; omega
        · obtain rfl : m = 62 := by omega
          have hmi : ¬ ((62 : Nat) : Int) < 62 := by omega
          rw [HW.out]
          go_wp2_with fail
          refine (CRD.out _ _ (HR.out.below P7.out)).mono ?_
          rintro e z8 ⟨rfl, b⟩
          have P8 := Lib.hid (below_up6 P7.out b)
          clear b
          cases hrb : redB (rawS X k n) B with
          | true =>
            have h9 := HK.out
            rw [HST.out, if_pos hrb] at h9
            obtain ⟨f1, f2⟩ := HR2.out _ h9
            obtain ⟨v1, v2⟩ := draw_some h9
            clear h9 hrb
            rw [v1, v2]
            go_wp2
            go_ret
            exact ⟨rfl, P8.out⟩
          | false =>
            have h9 := HK.out
            rw [HST.out, if_neg (by rw [hrb]; decide)] at h9
            have H9 := Lib.hid h9
            clear h9 hrb
            have hni := HNI.out
            go_wp2_with fail
            go_roundw
            case rel => exact ⟨n + 1, by have := H6.out; omega, by go_num, H9, P8⟩
            case measure => simp [RowKit.intOf]; omega
    · obtain rfl : n = 64 := by omega
      have hni : ¬ ((64 : Nat) : Int) < 64 := by omega
      obtain ⟨v1, v2⟩ := draw_none (s := X) (i := k) (b := B) HK.out
      rw [v1, v2]
      go_wp2
      go_ret
      exact ⟨rfl, HBW.out⟩
end Go.Proofs.YtdolmahodhgfpaaDoor
