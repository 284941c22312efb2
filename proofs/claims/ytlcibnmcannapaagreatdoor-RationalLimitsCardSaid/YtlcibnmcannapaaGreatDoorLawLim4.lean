/-
  RationalLimits: its walk.
-/
import Derived.Test.YtlcibnmcannapaaGreatDoorLawLowest
namespace Go.Proofs.YtlcibnmcannapaaGreatDoor
open Go Go.Proofs Go.RowKit Go.Lib

theorem fit_pow (k : Nat) : fitB ((10 : Int) ^ k) = decide (k < 200) := by
  unfold fitB
  rw [Int.natAbs_pow]
  refine decide_eq_decide.2 ?_
  show 10 ^ k < 10 ^ 200 ↔ _
  exact Nat.pow_lt_pow_iff_right (by decide)
theorem fit_pow1 (k : Nat) : fitB ((10 : Int) ^ k + 1) = decide (k < 200) := by
  unfold fitB
  have e : ((10 : Int) ^ k + 1).natAbs = 10 ^ k + 1 := by
    have : ((10 : Int) ^ k) = ((10 ^ k : Nat) : Int) := by rw [Int.natCast_pow]; rfl
    rw [this]
    generalize 10 ^ k = P
    omega
  rw [e]
  refine decide_eq_decide.2 ?_
  constructor
  · intro h
    refine (Nat.pow_lt_pow_iff_right (a := 10) (by decide)).1 (show 10 ^ k < 10 ^ 200 by omega)
  · intro h
    have h1 : 10 ^ (k + 1) ≤ 10 ^ 200 := Nat.pow_le_pow_right (by decide) (by omega)
    have h2 := Nat.pow_pos (n := k) (show 0 < 10 by decide)
    rw [Nat.pow_succ] at h1
    omega
theorem pow_pos_int (k : Nat) : (0 : Int) < 10 ^ k := Int.pow_pos (by decide)
theorem num_pow {k : Nat} (h : k < 200) : validB (powT k) = true ∧ numB (powT k) = 10 ^ k := valid_text (powT_fits h)
theorem one_num : validB (⟨#[49]⟩ : ByteArray) = true ∧ numB ⟨#[49]⟩ = 1 := by decide +kernel
theorem valid_pow {k : Nat} (h : k < 200) : validQ (powT k) ⟨#[49]⟩ = true := by
  unfold validQ
  rw [(num_pow h).1, one_num.1, one_num.2]
  simp
theorem valid_inv {k : Nat} (h : k < 200) : validQ ⟨#[49]⟩ (powT k) = true := by
  unfold validQ
  rw [(num_pow h).1, (num_pow h).2, one_num.1, one_num.2, decide_eq_true (pow_pos_int k)]
  simp
theorem both_pow {n m : Nat} (h : n < 200) (h2 : m < 200) : bothB (powT n) ⟨#[49]⟩ (powT m) ⟨#[49]⟩ = true := by unfold bothB; rw [valid_pow h, valid_pow h2]; rfl
theorem both_inv {n m : Nat} (h : n < 200) (h2 : m < 200) : bothB (powT n) ⟨#[49]⟩ ⟨#[49]⟩ (powT m) = true := by unfold bothB; rw [valid_pow h, valid_inv h2]; rfl
theorem fit_one : fitB 1 = true := by rw [fitB_iff]; exact one_fits
theorem lim_mul {n m : Nat} (h : n < 200) (h2 : m < 200) : mulB (powT n) ⟨#[49]⟩ (powT m) ⟨#[49]⟩ = decide (n + m < 200) := by
  unfold mulB
  rw [both_pow h h2, (num_pow h).2, (num_pow h2).2, one_num.2, ← Int.pow_add, fit_pow, Int.mul_one, fit_one]
  simp
theorem lim_div {m : Nat} (h2 : m < 200) : divB ⟨#[49]⟩ ⟨#[49]⟩ (powT m) ⟨#[49]⟩ = true ∧ outN true (valQ ⟨#[49]⟩ ⟨#[49]⟩ / valQ (powT m) ⟨#[49]⟩) = ⟨#[49]⟩ ∧ outD true (valQ ⟨#[49]⟩ ⟨#[49]⟩ / valQ (powT m) ⟨#[49]⟩) = powT m := by
  have hv1 : validQ ⟨#[49]⟩ ⟨#[49]⟩ = true := valid_pow (k := 0) (by decide) |> fun h => by rwa [powT_zero] at h
  refine ⟨?_, ?_⟩
  · unfold divB bothB
    rw [hv1, valid_pow h2, (num_pow h2).2, one_num.2, Int.mul_one, Int.one_mul, fit_one, fit_pow, decide_eq_true h2, decide_eq_true (show (10 : Int) ^ m ≠ 0 by have := pow_pos_int m; omega)]
    rfl
  · rw [← div_val, one_num.2, (num_pow h2).2, Int.one_mul, Int.one_mul]
    obtain ⟨e1, e2⟩ := divInt_coprime (n := 1) (d := (10 : Int) ^ m) (pow_pos_int m) (by simp)
    show textI _ = _ ∧ textI _ = _
    rw [e1, e2]
    exact ⟨by decide +kernel, rfl⟩
theorem lim_add {n m : Nat} (h : n < 200) (h2 : m < 200) : addB (powT n) ⟨#[49]⟩ ⟨#[49]⟩ (powT m) = decide (n + m < 200) := by
  unfold addB
  rw [both_inv h h2, (num_pow h).2, (num_pow h2).2, one_num.2, ← Int.pow_add, Int.one_mul, Int.one_mul, fit_pow, fit_pow, fit_one, fit_pow1, decide_eq_true h2]
  simp
theorem sgZ_pow (n m : Nat) : sgZ ((10 : Int) ^ n) (10 ^ m) = if n < m then -1 else if m < n then 1 else 0 := by
  have key : ∀ a b : Nat, a < b → (10 : Int) ^ a < 10 ^ b := fun a b h => by
    have := Nat.pow_lt_pow_right (a := 10) (by decide) h
    have e : ∀ k, ((10 : Int) ^ k) = ((10 ^ k : Nat) : Int) := fun k => by rw [Int.natCast_pow]; rfl
    rw [e, e]; omega
  rcases Nat.lt_trichotomy n m with h | h | h
  · rw [if_pos h]; exact sgZ_lt (key n m h)
  · subst h; rw [if_neg (by omega), if_neg (by omega)]; exact sgZ_self _
  · rw [if_neg (by omega), if_pos h]; exact sgZ_gt (key m n h)
theorem lim_cmp {n m : Nat} (h : n < 200) (h2 : m < 200) : cmpQ (powT n) ⟨#[49]⟩ (powT m) ⟨#[49]⟩ = if n < m then -1 else if m < n then 1 else 0 := by
  rw [cmpQ_both (both_pow h h2), (num_pow h).2, (num_pow h2).2, one_num.2, Int.mul_one, Int.mul_one, sgZ_pow]
theorem lim_cmp2 {n m : Nat} (h : n < 200) (h2 : m < 200) : cmpQ (powT n) ⟨#[49]⟩ ⟨#[49]⟩ (powT m) = if 0 < n + m then 1 else 0 := by
  rw [cmpQ_both (both_inv h h2), (num_pow h).2, (num_pow h2).2, one_num.2, Int.mul_one, ← Int.pow_add]
  have := sgZ_pow (n + m) 0
  rw [Int.pow_zero, if_neg (by omega)] at this
  exact this

set_option maxRecDepth 100000 in
set_option maxHeartbeats 16000000 in
theorem rationalLimits_walk (a b : Int) (a0 : -9223372036854775808 ≤ a) (a1 : a ≤ 9223372036854775807) (b0 : -9223372036854775808 ≤ b) (b1 : b ≤ 9223372036854775807) (w : World) (hR : Ready w) :
    Calls Tryz.prog 10 #[.int .i64 a, .int .i64 b] w fun e w' => e = .returned (.bool true) ∧ Below w.heap.size w w' := by
  have hp := fun W => pickL_any a 200 a0 a1 (by decide) (by decide) W
  have hq := fun W => pickL_any b 200 b0 b1 (by decide) (by decide) W
  have r1 := pickI_range a (n := 200) (by decide)
  have r2 := pickI_range b (n := 200) (by decide)
  obtain ⟨n, hn⟩ : ∃ n : Nat, pickI a 200 = (n : Int) := ⟨(pickI a 200).toNat, by omega⟩
  obtain ⟨m, hm⟩ : ∃ m : Nat, pickI b 200 = (m : Int) := ⟨(pickI b 200).toNat, by omega⟩
  rw [hn] at hp r1
  rw [hm] at hq r2
  have hn2 : n < 200 := by omega
  have hm2 : m < 200 := by omega
  have hz1 := powT_size n
  have hz2 := powT_size m
  have H0 := Lib.hid powT_zero
  have SANE := Lib.hid sane_any; have IS := Lib.hid is_any; have HR := Lib.hid hR; have HPK := Lib.hid hp; have HQK := Lib.hid hq
  clear hp hq hn hm r1 r2 hR a0 a1 b0 b1
  have P0 := Lib.hid (Below.refl w.heap.size w)
  go_enter Tryz.func10, Tryz.ntmps10
  go_wp2_with fail
  refine (SANE.out _ (HR.out.below P0.out)).mono ?_
  rintro e z1 ⟨rfl, b1⟩
  have B1 := Lib.hid b1
  have P1 := Lib.hid (below_up P0.out b1)
  clear b1
  go_wp2_with fail
  refine (HPK.out _).mono ?_
  rintro e zq101 ⟨rfl, rfl⟩
  go_wp2_with fail
  refine (HQK.out _).mono ?_
  rintro e zq101 ⟨rfl, rfl⟩
  go_wp2_with fail
  generalize z1 = zs at *
  go_loopw [6, 7] (fun v i wr => ∃ k : Nat, k ≤ n ∧ v = .string (powT k) ∧ i = .int .i64 k ∧ wr = zs) (fun _ i _ => n - (RowKit.intOf i).toNat)
  case atStart => exact ⟨0, Nat.zero_le _, by rw [H0.out], rfl, rfl⟩
  case round =>
    obtain ⟨kn, hkn, rfl, rfl, rfl⟩ := hrel
    by_cases hltn : kn < n
    · have h1 : (kn : Int) < (n : Int) := by omega
      have hsz := powT_size kn
      have hnx := Lib.hid (powT_succ kn)
      have hsz2 : (powT kn).size ≤ 400 := by omega
      clear hsz
      go_wp2
      go_roundw
      case rel => exact ⟨kn + 1, by omega, by rw [hnx.out], by go_num, trivial⟩
      case measure => simp [RowKit.intOf]; omega
    · have h1 : ¬ (kn : Int) < (n : Int) := by omega
      obtain rfl : n = kn := by omega
      clear hltn hkn
      go_wp2_with fail
      clear h1
      generalize wr = zs at *
      go_loopw [8, 9] (fun v i wr => ∃ k : Nat, k ≤ m ∧ v = .string (powT k) ∧ i = .int .i64 k ∧ wr = zs) (fun _ i _ => m - (RowKit.intOf i).toNat)
      case atStart => exact ⟨0, Nat.zero_le _, by rw [H0.out], rfl, rfl⟩
      case round =>
        obtain ⟨km, hkm, rfl, rfl, rfl⟩ := hrel
        by_cases hltm : km < m
        · have h1 : (km : Int) < (m : Int) := by omega
          have hsz := powT_size km
          have hnx := Lib.hid (powT_succ km)
          have hsz2 : (powT km).size ≤ 400 := by omega
          clear hsz
          go_wp2
          go_roundw
          case rel => exact ⟨km + 1, by omega, by rw [hnx.out], by go_num, trivial⟩
          case measure => simp [RowKit.intOf]; omega
        · have h1 : ¬ (km : Int) < (m : Int) := by omega
          obtain rfl : m = km := by omega
          clear hltm hkm
          clear h1
          generalize wr = z1 at *
          have cm := fun W (h : Ready W) => mul_q (powT n) ⟨#[49]⟩ (powT m) ⟨#[49]⟩ (by omega) (by decide) (by omega) (by decide) W h
          rw [lim_mul hn2 hm2] at cm
          have cd := fun W (h : Ready W) => div_q ⟨#[49]⟩ ⟨#[49]⟩ (powT m) ⟨#[49]⟩ (by decide) (by decide) (by omega) (by decide) W h
          rw [(lim_div hm2).1, (lim_div hm2).2.1, (lim_div hm2).2.2, show outE true = 0 from rfl] at cd
          have ca := fun W (h : Ready W) => add_q (powT n) ⟨#[49]⟩ ⟨#[49]⟩ (powT m) (by omega) (by decide) (by decide) (by omega) W h
          rw [lim_add hn2 hm2] at ca
          have c1 := fun W (h : Ready W) => cmp_q (powT n) ⟨#[49]⟩ (powT m) ⟨#[49]⟩ (by omega) (by decide) (by omega) (by decide) W h
          rw [lim_cmp hn2 hm2] at c1
          have c2 := fun W (h : Ready W) => cmp_q (powT n) ⟨#[49]⟩ ⟨#[49]⟩ (powT m) (by omega) (by decide) (by decide) (by omega) W h
          rw [lim_cmp2 hn2 hm2] at c2
          have hw1 : IntKind.i64.wrap ((n : Int) + m) = (n : Int) + m := IntWalk.i64_in _ (by omega)
          have hw2 : IntKind.i64.wrap ((n : Int) + m + 1) = (n : Int) + m + 1 := IntWalk.i64_in _ (by omega)
          obtain ⟨b, hb⟩ : ∃ b, decide (n + m < 200) = b := ⟨_, rfl⟩
          rw [hb] at cm ca
          obtain ⟨sg, hsg⟩ : ∃ v : Int, (if n < m then (-1 : Int) else if m < n then 1 else 0) = v := ⟨_, rfl⟩
          rw [hsg] at c1
          obtain ⟨ab, hab⟩ : ∃ v : Int, (if 0 < n + m then (1 : Int) else 0) = v := ⟨_, rfl⟩
          rw [hab] at c2
          have hzn : b = false → outN b (valQ (powT n) ⟨#[49]⟩ * valQ (powT m) ⟨#[49]⟩) = ⟨#[]⟩ ∧ outD b (valQ (powT n) ⟨#[49]⟩ * valQ (powT m) ⟨#[49]⟩) = ⟨#[]⟩ := fun h => by subst h; exact ⟨rfl, rfl⟩
          have hze : outE b = if b then 0 else 40 := rfl
          generalize outE b = eb at *
          generalize outN b (valQ (powT n) ⟨#[49]⟩ * valQ (powT m) ⟨#[49]⟩) = MN at *
          generalize outD b (valQ (powT n) ⟨#[49]⟩ * valQ (powT m) ⟨#[49]⟩) = MD at *
          generalize outN b (valQ (powT n) ⟨#[49]⟩ + valQ ⟨#[49]⟩ (powT m)) = AN at *
          generalize outD b (valQ (powT n) ⟨#[49]⟩ + valQ ⟨#[49]⟩ (powT m)) = AD2 at *
          generalize powT n = X at *
          generalize powT m = Y at *
          have CM := Lib.hid cm; have CD := Lib.hid cd; have CA := Lib.hid ca; have C1 := Lib.hid c1; have C2 := Lib.hid c2
          have HB := Lib.hid hb; have HSG := Lib.hid hsg; have HAB := Lib.hid hab; have HZN := Lib.hid hzn; have HZE := Lib.hid hze; have HW1 := Lib.hid hw1; have HW2 := Lib.hid hw2
          clear hz1 hz2 cm cd ca c1 c2 hb hsg hab hzn hze hw1 hw2 hn2 hm2
          go_wp2_with fail
          refine (IS.out _ _ _).mono ?_
          rintro e z2 ⟨rfl, b2⟩
          have B2 := Lib.hid b2
          have P2 := Lib.hid (below_up P1.out b2)
          clear b2
          obtain ⟨z3, hz3, b3, f3⟩ := box_one z2 X ⟨#[49]⟩
          have V3 := Lib.hid hz3; have F3 := Lib.hid f3
          clear hz3 f3
          have B3 := Lib.hid b3
          have P3 := Lib.hid (below_up P2.out b3)
          clear b3
          go_wp2_with (rw [V3.out])
          refine (IS.out _ _ _).mono ?_
          rintro e z4 ⟨rfl, b4⟩
          have B4 := Lib.hid b4
          have P4 := Lib.hid (below_up P3.out b4)
          clear b4
          obtain ⟨z5, hz5, b5, f5⟩ := box_one z4 Y ⟨#[49]⟩
          have V5 := Lib.hid hz5; have F5 := Lib.hid f5
          clear hz5 f5
          have B5 := Lib.hid b5
          have P5 := Lib.hid (below_up P4.out b5)
          clear b5
          obtain ⟨qx0, qx1, qx2, qx3⟩ := F3.out z5 (below_up B4.out (below_up B5.out (Below.refl _ _)))
          obtain ⟨qy0, qy1, qy2, qy3⟩ := F5.out z5 (Below.refl _ _)
          go_wp2_with (rw [V5.out])
          refine (CM.out _ (HR.out.below P5.out)).mono ?_
          rintro e z6 ⟨rfl, b6⟩
          have B6 := Lib.hid b6
          have P6 := Lib.hid (below_up P5.out b6)
          clear b6
          clear qx0 qx1 qx2 qx3 qy0 qy1 qy2 qy3
          obtain ⟨z7, hz7, b7, f7⟩ := box_one z6 MN MD
          have V7 := Lib.hid hz7; have F7 := Lib.hid f7
          clear hz7 f7
          have B7 := Lib.hid b7
          have P7 := Lib.hid (below_up P6.out b7)
          clear b7
          go_upto_region 17 with (rw [V7.out])
          go_cut [14, 15] from 50 to 56 (fun sp se wx => se = .int .i64 0 ∧ ∃ A : Nat, sp = .pointer (some ⟨A, 0, none⟩) ∧ Hid (RatAt wx A ⟨#[49]⟩ Y) ∧ Hid (Below z7.heap.size z7 wx))
          case first =>
            have K3 := Lib.hid (fun W (b : Below z7.heap.size z7 W) => And.intro (F5.out W (below_up B6.out (below_up B7.out b))).1 (F5.out W (below_up B6.out (below_up B7.out b))).2.1)
            go_region_held3 (fun W => W.cell? ⟨z4.heap.size, 0, none⟩ = some (.string Y) ∧ W.cell? ⟨z4.heap.size, 1, none⟩ = some (.string ⟨#[49]⟩)) (first | exact K3.out _ ⟨rfl, rfl, rfl, Nat.le_refl _, fun _ _ => rfl⟩ | exact K3.out _ (((Below.refl _ _).alloc (Nat.le_refl _) _).drew) | exact K3.out _ ((Below.refl _ _).drew.alloc (Nat.le_refl _) _) | exact K3.out _ h2 | exact K3.out _ (h2.alloc h2.size _) | exact K3.out _ ((h2.setCell (p := _) (by first | exact Nat.le_refl _ | exact h1.size) _).setCell (p := _) (by first | exact Nat.le_refl _ | exact h1.size) _) | exact K3.out _ h1 | exact K3.out _ (h1.alloc h1.size _)) (first | (go_at_call 41; (with_reducible refine (IS.out _ _ _).mono ?_); (rintro e y1 ⟨rfl, hb1'⟩); (have h1 : Below z7.heap.size z7 y1 := below_up (by first | exact (Below.refl _ _).drew | exact ((Below.refl _ _).alloc (Nat.le_refl _) _).drew | exact ((Below.refl _ _).drew.alloc (Nat.le_refl _) _)) hb1'); (first | (have e1 : RatAt y1 z7.heap.size ⟨#[]⟩ ⟨#[]⟩ := ratAt_alloc (W := z7) (t := 23) ⟨hb1'.os, hb1'.tape, hb1'.output, hb1'.size, hb1'.block⟩) | (have e1 : RatAt y1 z7.heap.size ⟨#[]⟩ ⟨#[]⟩ := ratAt_alloc (W := z7.drew) (t := 23) hb1') | skip)) | (go_at_call 45; (refine (CD.out _ (HR.out.below (below_up P7.out (by first | exact h1 | exact h1.alloc h1.size _)))).mono ?_); (rintro e y2 ⟨rfl, hb2'⟩); (have h2 : Below z7.heap.size z7 y2 := below_up (by first | exact h1 | exact h1.alloc h1.size _) hb2'); (first | ((have e2 := RatAt.below e1 hb2'); (obtain ⟨q1, q2, q3, q4⟩ := e2)) | ((have e2 := ratAt_alloc (W := y1) hb2'); (obtain ⟨q1, q2, q3, q4⟩ := e2)) | skip)))
            all_goals (go_wp2_with fail; go_meet; exact ⟨rfl, _, rfl, by first | exact ratAt_of (heap_alloc_new _ _) | exact ratAt_set (n := ⟨#[]⟩) (d := ⟨#[]⟩) ⟨q1, q2, q3, q4⟩, by first | exact h2.alloc h2.size _ | exact (h2.setCell (p := _) (by first | exact Nat.le_refl _ | exact h1.size) _).setCell (p := _) (by first | exact Nat.le_refl _ | exact h1.size) _⟩)
          case rest =>
            obtain ⟨rfl, AD, rfl, hrat, hbx⟩ := hcut
            generalize wc = z8 at *
            have B8 := Lib.hid hbx.out
            have P8 := Lib.hid (below_up P7.out hbx.out)
            have F8 := Lib.hid (fun W (b : Below z8.heap.size z8 W) => RatAt.below hrat.out b)
            clear hbx hrat
            obtain ⟨qs0, qs1, qs2, qs3⟩ := F8.out _ (Below.refl _ _)
            obtain ⟨qx0, qx1, qx2, qx3⟩ := F3.out z8 (below_up B4.out (below_up B5.out (below_up B6.out (below_up B7.out (below_up B8.out (Below.refl _ _))))))
            go_wp2_with fail
            refine (CA.out _ (HR.out.below P8.out)).mono ?_
            rintro e z9 ⟨rfl, b9⟩
            have B9 := Lib.hid b9
            have P9 := Lib.hid (below_up P8.out b9)
            clear b9
            clear qx0 qx1 qx2 qx3
            clear qs0 qs1 qs2 qs3
            obtain ⟨z10, hz10, b10, f10⟩ := box_one z9 AN AD2
            have V10 := Lib.hid hz10; have F10 := Lib.hid f10
            clear hz10 f10
            have B10 := Lib.hid b10
            have P10 := Lib.hid (below_up P9.out b10)
            clear b10
            go_upto_region 19 with (rw [V10.out])
            go_cut [18] from 62 to 66 (fun s18 wx => s18 = .bool b ∧ wx = z10)
            case first =>
              have hb := HB.out; have hw1 := HW1.out; have hw2 := HW2.out
              cases b with
              | true =>
                have h0 := of_decide_eq_true hb
                have hfi : (n : Int) + m + 1 ≤ 200 := by omega
                clear hb h0
                go_wp2_with fail
                go_meet
                exact ⟨rfl, rfl⟩
              | false =>
                have h0 := of_decide_eq_false hb
                have hfi : ¬ (n : Int) + m + 1 ≤ 200 := by omega
                clear hb h0
                go_wp2_with fail
                go_meet
                exact ⟨rfl, rfl⟩
            case rest =>
              obtain ⟨rfl, rfl⟩ := hcut
              generalize wc = z10 at *
              go_upto_region 20 with fail
              go_cut [93] from 67 to 93 (fun s93 wx => s93 = .bool false ∧ wx = z10)
              case first =>
                obtain ⟨qz0, qz1, qz2, qz3⟩ := F7.out z10 (below_up B8.out (below_up B9.out (below_up B10.out (Below.refl _ _))))
                have hze := HZE.out; have hzn := HZN.out
                cases b with
                | true =>
                  obtain rfl : eb = 0 := hze
                  clear hzn
                  go_wp2_with fail
                  go_meet
                  exact ⟨rfl, rfl⟩
                | false =>
                  obtain rfl : eb = 40 := hze
                  obtain ⟨rfl, rfl⟩ := hzn rfl
                  clear hzn
                  go_wp2_with fail
                  go_meet
                  exact ⟨rfl, rfl⟩
              case rest =>
                obtain ⟨rfl, rfl⟩ := hcut
                generalize wc = z10 at *
                go_upto_if 96 with fail
                go_cut [19] from 94 to 99 (fun s19 wx => s19 = .int .i64 sg ∧ wx = z10)
                case first =>
                  have hsg := HSG.out
                  rcases Nat.lt_trichotomy n m with hc | hc | hc
                  · rw [if_pos hc] at hsg
                    have h1 : (n : Int) < (m : Int) := by omega
                    subst hsg
                    clear hc
                    go_wp2_with fail
                    go_meet
                    exact ⟨rfl, rfl⟩
                  · rw [if_neg (by omega), if_neg (by omega)] at hsg
                    have h1 : ¬ (n : Int) < (m : Int) := by omega
                    have h2 : ¬ (m : Int) < (n : Int) := by omega
                    subst hsg
                    clear hc
                    go_wp2_with fail
                    go_meet
                    exact ⟨rfl, rfl⟩
                  · rw [if_neg (by omega), if_pos hc] at hsg
                    have h1 : ¬ (n : Int) < (m : Int) := by omega
                    have h2 : (m : Int) < (n : Int) := by omega
                    subst hsg
                    clear hc
                    go_wp2_with fail
                    go_meet
                    exact ⟨rfl, rfl⟩
                case rest =>
                  obtain ⟨rfl, rfl⟩ := hcut
                  generalize wc = z10 at *
                  go_upto_region 28 with fail
                  obtain ⟨nz, hnz⟩ : ∃ v, decide (n + m = 0) = v := ⟨_, rfl⟩
                  have hab := HAB.out
                  have HNZ := Lib.hid (show (if nz then (0 : Int) else 1) = ab by rw [← hab, ← hnz]; by_cases h : n + m = 0 <;> simp [h] <;> omega)
                  have HNZ2 := Lib.hid hnz
                  clear hab hnz
                  go_cut [105] from 100 to 105 (fun s105 wx => s105 = .bool nz ∧ wx = z10)
                  case first =>
                    by_cases hn0 : n = 0
                    · have hnb : ((n : Int) == 0) = true := by rw [beq_iff_eq]; omega
                      by_cases hm0 : m = 0
                      · have hmb : ((m : Int) == 0) = true := by rw [beq_iff_eq]; omega
                        obtain rfl : nz = true := by rw [← HNZ2.out]; exact decide_eq_true (by omega)
                        clear hn0 hm0
                        go_wp2_with fail
                        go_meet
                        exact ⟨rfl, rfl⟩
                      · have hmb : ((m : Int) == 0) = false := by rw [beq_eq_false_iff_ne]; omega
                        obtain rfl : nz = false := by rw [← HNZ2.out]; exact decide_eq_false (by omega)
                        clear hn0 hm0
                        go_wp2_with fail
                        go_meet
                        exact ⟨rfl, rfl⟩
                    · have hnb : ((n : Int) == 0) = false := by rw [beq_eq_false_iff_ne]; omega
                      obtain rfl : nz = false := by rw [← HNZ2.out]; exact decide_eq_false (by omega)
                      clear hn0
                      go_wp2_with fail
                      go_meet
                      exact ⟨rfl, rfl⟩
                  case rest =>
                    obtain ⟨rfl, rfl⟩ := hcut
                    generalize wc = z10 at *
                    have hnz := HNZ.out
                    cases nz with
                    | true =>
                      obtain rfl : 0 = ab := hnz
                      obtain ⟨qx0, qx1, qx2, qx3⟩ := F3.out z10 (below_up B4.out (below_up B5.out (below_up B6.out (below_up B7.out (below_up B8.out (below_up B9.out (below_up B10.out (Below.refl _ _))))))))
                      obtain ⟨qy0, qy1, qy2, qy3⟩ := F5.out z10 (below_up B6.out (below_up B7.out (below_up B8.out (below_up B9.out (below_up B10.out (Below.refl _ _))))))
                      obtain ⟨qs0, qs1, qs2, qs3⟩ := F8.out z10 (below_up B9.out (below_up B10.out (Below.refl _ _)))
                      go_wp2_with fail
                      refine (C1.out _ (HR.out.below P10.out)).mono ?_
                      rintro e z11 ⟨rfl, b11⟩
                      have B11 := Lib.hid b11
                      have P11 := Lib.hid (below_up P10.out b11)
                      clear b11
                      clear qx0 qx1 qx2 qx3 qy0 qy1 qy2 qy3
                      clear qs0 qs1 qs2 qs3
                      obtain ⟨qx0, qx1, qx2, qx3⟩ := F3.out z11 (below_up B4.out (below_up B5.out (below_up B6.out (below_up B7.out (below_up B8.out (below_up B9.out (below_up B10.out (below_up B11.out (Below.refl _ _)))))))))
                      obtain ⟨qy0, qy1, qy2, qy3⟩ := F5.out z11 (below_up B6.out (below_up B7.out (below_up B8.out (below_up B9.out (below_up B10.out (below_up B11.out (Below.refl _ _)))))))
                      obtain ⟨qs0, qs1, qs2, qs3⟩ := F8.out z11 (below_up B9.out (below_up B10.out (below_up B11.out (Below.refl _ _))))
                      go_wp2_with fail
                      refine (C2.out _ (HR.out.below P11.out)).mono ?_
                      rintro e z12 ⟨rfl, b12⟩
                      have B12 := Lib.hid b12
                      have P12 := Lib.hid (below_up P11.out b12)
                      clear b12
                      go_wp2
                      go_ret
                      exact ⟨rfl, P12.out⟩
                    | false =>
                      obtain rfl : 1 = ab := hnz
                      obtain ⟨qx0, qx1, qx2, qx3⟩ := F3.out z10 (below_up B4.out (below_up B5.out (below_up B6.out (below_up B7.out (below_up B8.out (below_up B9.out (below_up B10.out (Below.refl _ _))))))))
                      obtain ⟨qy0, qy1, qy2, qy3⟩ := F5.out z10 (below_up B6.out (below_up B7.out (below_up B8.out (below_up B9.out (below_up B10.out (Below.refl _ _))))))
                      obtain ⟨qs0, qs1, qs2, qs3⟩ := F8.out z10 (below_up B9.out (below_up B10.out (Below.refl _ _)))
                      go_wp2_with fail
                      refine (C1.out _ (HR.out.below P10.out)).mono ?_
                      rintro e z11 ⟨rfl, b11⟩
                      have B11 := Lib.hid b11
                      have P11 := Lib.hid (below_up P10.out b11)
                      clear b11
                      clear qx0 qx1 qx2 qx3 qy0 qy1 qy2 qy3
                      clear qs0 qs1 qs2 qs3
                      obtain ⟨qx0, qx1, qx2, qx3⟩ := F3.out z11 (below_up B4.out (below_up B5.out (below_up B6.out (below_up B7.out (below_up B8.out (below_up B9.out (below_up B10.out (below_up B11.out (Below.refl _ _)))))))))
                      obtain ⟨qy0, qy1, qy2, qy3⟩ := F5.out z11 (below_up B6.out (below_up B7.out (below_up B8.out (below_up B9.out (below_up B10.out (below_up B11.out (Below.refl _ _)))))))
                      obtain ⟨qs0, qs1, qs2, qs3⟩ := F8.out z11 (below_up B9.out (below_up B10.out (below_up B11.out (Below.refl _ _))))
                      go_wp2_with fail
                      refine (C2.out _ (HR.out.below P11.out)).mono ?_
                      rintro e z12 ⟨rfl, b12⟩
                      have B12 := Lib.hid b12
                      have P12 := Lib.hid (below_up P11.out b12)
                      clear b12
                      go_wp2
                      go_ret
                      exact ⟨rfl, P12.out⟩
end Go.Proofs.YtlcibnmcannapaaGreatDoor
