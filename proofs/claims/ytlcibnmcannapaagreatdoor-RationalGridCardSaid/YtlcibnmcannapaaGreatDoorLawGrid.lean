/-
  RationalGrid: its walk.
-/
import Derived.Test.YtlcibnmcannapaaGreatDoorMinusQ
import Derived.Test.YtlcibnmcannapaaGreatDoorLongQ
import Derived.Test.YtlcibnmcannapaaGreatDoorLawLowest
namespace Go.Proofs.YtlcibnmcannapaaGreatDoor
open Go Go.Proofs Go.RowKit Go.Lib

theorem exact_cmp {q : Rat} {p : Nat} {b : Bool} (h : decide (q.num * 10 ^ p % q.den = 0) = b) :
    cmpR (lowQ q p) q = (if b then 0 else -1) ∧ cmpR (highQ q p) q = (if b then 0 else 1) ∧ highQ q p - lowQ q p = if b then 0 else Rat.divInt 1 (10 ^ p) := by
  have h1 := low_cmp q p
  have h2 := high_cmp q p
  have r1 := cmpR_range (lowQ q p) q
  have r2 := cmpR_range (highQ q p) q
  have h3 := width_grid q p
  cases b with
  | true =>
    have e := of_decide_eq_true h
    rw [if_pos e] at h3
    exact ⟨h1.2.2 e, h2.2.2 e, h3⟩
  | false =>
    have e := of_decide_eq_false h
    have n1 : cmpR (lowQ q p) q ≠ 0 := fun h => e (h1.2.1 h)
    have n2 : cmpR (highQ q p) q ≠ 0 := fun h => e (h2.2.1 h)
    rw [if_neg e] at h3
    refine ⟨?_, ?_, h3⟩
    · show cmpR (lowQ q p) q = -1
      omega
    · show cmpR (highQ q p) q = 1
      omega
theorem width_texts (b : Bool) (p : Nat) : nT (if b then (0 : Rat) else Rat.divInt 1 (10 ^ p)) = (if b then ⟨#[48]⟩ else ⟨#[49]⟩) ∧ dT (if b then (0 : Rat) else Rat.divInt 1 (10 ^ p)) = (if b then ⟨#[49]⟩ else powT p) := by
  cases b with
  | true => exact ⟨zero_texts.1.symm, zero_texts.2.symm⟩
  | false => exact one_part p

set_option maxRecDepth 100000 in
set_option maxHeartbeats 16000000 in
theorem rationalGrid_walk (x0 x1 x2 x3 c : Int) (a0 : -9223372036854775808 ≤ x0) (c0 : x0 ≤ 9223372036854775807) (a1 : -9223372036854775808 ≤ x1) (c1 : x1 ≤ 9223372036854775807) (a2 : -9223372036854775808 ≤ x2) (c2 : x2 ≤ 9223372036854775807) (a3 : -9223372036854775808 ≤ x3) (c3 : x3 ≤ 9223372036854775807) (d0 : -9223372036854775808 ≤ c) (d1 : c ≤ 9223372036854775807) (w : World) (hR : Ready w) :
    Calls Tryz.prog 8 #[.agg #[.int .i64 x0, .int .i64 x1, .int .i64 x2, .int .i64 x3], .int .i64 c] w fun e w' => e = .returned (.bool true) ∧ Below w.heap.size w w' := by
  have hlong := fun W => longR_any x0 x1 x2 x3 a0 c0 a1 c1 a2 c2 a3 c3 W
  have hpick := fun W => pickL_any c 31 d0 d1 (by decide) (by decide) W
  have r1 := pickI_range c (n := 31) (by decide)
  obtain ⟨n, hn⟩ : ∃ n : Nat, pickI c 31 = (n : Int) := ⟨(pickI c 31).toNat, by omega⟩
  rw [hn] at hpick r1
  have hn2 : n ≤ 30 := by omega
  have LONG := Lib.hid hlong; have PICK := Lib.hid hpick; have HN := Lib.hid hn2
  have H0 := Lib.hid powT_zero
  have SANE := Lib.hid sane_any; have IS := Lib.hid is_any
  obtain ⟨W0, hW0, b0, hcc⟩ := box_four w x0 x1 x2 x3
  have HW := Lib.hid hW0; have HC := Lib.hid hcc; have HB0 := Lib.hid b0
  have HR0 := Lib.hid (hR.below b0)
  clear hlong hpick hR a0 c0 a1 c1 a2 c2 a3 c3 d0 d1 hW0 hcc b0 hn r1 hn2
  have P0 := Lib.hid (Below.refl W0.heap.size W0)
  go_enter Tryz.func8, Tryz.ntmps8
  go_wp2_with (rw [HW.out])
  refine (SANE.out _ (HR0.out.below P0.out)).mono ?_
  rintro e z1 ⟨rfl, b1⟩
  have B1 := Lib.hid b1
  have P1 := Lib.hid (below_up P0.out b1)
  clear b1
  obtain ⟨m0, m1, m2, m3⟩ := HC.out _ P1.out
  go_wp2_with fail
  refine (LONG.out _).mono ?_
  rintro e z2 ⟨q, hq, rfl, b2⟩
  have B2 := Lib.hid b2
  have P2 := Lib.hid (below_up P1.out b2)
  clear b2
  clear m0 m1 m2 m3
  have hn := HN.out
  have fq := hq.mid.fits
  have gl := low_grid hq hn
  have gh := high_grid hq hn
  have gm := low_grid hq.neg hn
  have fl := gl.mid.fits
  have fh := gh.mid.fits
  have fm := gm.mid.fits
  have fn := neg_fits fq
  obtain ⟨sq1, sq2⟩ := text_size fq
  obtain ⟨sl1, sl2⟩ := text_size fl
  obtain ⟨sh1, sh2⟩ := text_size fh
  obtain ⟨sn1, sn2⟩ := text_size fn
  have sp := powT_size n
  have cdn := fun W (h : Ready W) => down_q (nT q) (dT q) sq1 sq2 (n : Int) (by omega) (by omega) W h
  rw [gridB_mid hq.mid hn, downV_mid hq.mid n, show outN true (lowQ q n) = nT (lowQ q n) from rfl, show outD true (lowQ q n) = dT (lowQ q n) from rfl, show outE true = 0 from rfl] at cdn
  have cup := fun W (h : Ready W) => up_q (nT q) (dT q) sq1 sq2 (n : Int) (by omega) (by omega) W h
  rw [gridB_mid hq.mid hn, upV_mid hq.mid n, show outN true (highQ q n) = nT (highQ q n) from rfl, show outD true (highQ q n) = dT (highQ q n) from rfl, show outE true = 0 from rfl] at cup
  have cdm := fun W (h : Ready W) => down_q (nT (-q)) (dT (-q)) sn1 sn2 (n : Int) (by omega) (by omega) W h
  rw [gridB_mid hq.neg.mid hn, downV_mid hq.neg.mid n, show outN true (lowQ (-q) n) = nT (lowQ (-q) n) from rfl, show outD true (lowQ (-q) n) = dT (lowQ (-q) n) from rfl, show outE true = 0 from rfl] at cdm
  have cmq := fun W (h : Ready W) => minus_q q fq W h
  have cmm := fun W (h : Ready W) => minus_q (lowQ (-q) n) fm W h
  rw [neg_low q n] at cmm
  have cda := fun W (h : Ready W) => down_q (nT (highQ q n)) (dT (highQ q n)) sh1 sh2 (n : Int) (by omega) (by omega) W h
  rw [gridB_mid gh.mid hn, downV_mid gh.mid n, high_again q n, show outN true (highQ q n) = nT (highQ q n) from rfl, show outD true (highQ q n) = dT (highQ q n) from rfl, show outE true = 0 from rfl] at cda
  have cua := fun W (h : Ready W) => up_q (nT (lowQ q n)) (dT (lowQ q n)) sl1 sl2 (n : Int) (by omega) (by omega) W h
  rw [gridB_mid gl.mid hn, upV_mid gl.mid n, low_again q n, show outN true (lowQ q n) = nT (lowQ q n) from rfl, show outD true (lowQ q n) = dT (lowQ q n) from rfl, show outE true = 0 from rfl] at cua
  have cmu := fun W (h : Ready W) => mul_q (nT (lowQ q n)) (dT (lowQ q n)) (powT n) ⟨#[49]⟩ sl1 sl2 (by omega) (by decide) W h
  have td := times_den (q.num * 10 ^ n / q.den) hn fl
  rw [show Rat.divInt (q.num * 10 ^ n / q.den) (10 ^ n) = lowQ q n from rfl] at td
  rw [times_grid gl hn, show outN true (valQ (nT (lowQ q n)) (dT (lowQ q n)) * valQ (powT n) ⟨#[49]⟩) = nT (valQ (nT (lowQ q n)) (dT (lowQ q n)) * valQ (powT n) ⟨#[49]⟩) from rfl, show outD true (valQ (nT (lowQ q n)) (dT (lowQ q n)) * valQ (powT n) ⟨#[49]⟩) = dT (valQ (nT (lowQ q n)) (dT (lowQ q n)) * valQ (powT n) ⟨#[49]⟩) from rfl, td, show outE true = 0 from rfl] at cmu
  generalize nT (valQ (nT (lowQ q n)) (dT (lowQ q n)) * valQ (powT n) ⟨#[49]⟩) = MN at *
  have csu := fun W (h : Ready W) => sub_q (nT (highQ q n)) (dT (highQ q n)) (nT (lowQ q n)) (dT (lowQ q n)) sh1 sh2 sl1 sl2 W h
  rw [(sub_grids gh gl).1, (sub_grids gh gl).2, show outE true = 0 from rfl] at csu
  have cca := fun W (h : Ready W) => cmp_q (nT (lowQ q n)) (dT (lowQ q n)) (nT q) (dT q) sl1 sl2 sq1 sq2 W h
  rw [cmp_rats fl fq] at cca
  have ccb := fun W (h : Ready W) => cmp_q (nT (highQ q n)) (dT (highQ q n)) (nT q) (dT q) sh1 sh2 sq1 sq2 W h
  rw [cmp_rats fh fq] at ccb
  obtain ⟨ex, hex⟩ : ∃ b, decide (q.num * 10 ^ n % q.den = 0) = b := ⟨_, rfl⟩
  obtain ⟨e1, e2, e3⟩ := exact_cmp hex
  obtain ⟨t1, t2⟩ := width_texts ex n
  rw [e1] at cca
  rw [e2] at ccb
  rw [e3, show outN true (if ex then (0 : Rat) else Rat.divInt 1 (10 ^ n)) = nT (if ex then (0 : Rat) else Rat.divInt 1 (10 ^ n)) from rfl, show outD true (if ex then (0 : Rat) else Rat.divInt 1 (10 ^ n)) = dT (if ex then (0 : Rat) else Rat.divInt 1 (10 ^ n)) from rfl, t1, t2] at csu
  generalize nT (highQ q n) = NB at *
  generalize dT (highQ q n) = DB at *
  generalize nT (lowQ q n) = NA at *
  generalize dT (lowQ q n) = DA at *
  generalize nT (lowQ (-q) n) = NC at *
  generalize dT (lowQ (-q) n) = DC at *
  generalize nT (-q) = NM at *
  generalize dT (-q) = DM at *
  generalize nT q = N at *
  generalize dT q = D at *
  have CDN := Lib.hid cdn; have CUP := Lib.hid cup; have CDM := Lib.hid cdm; have CMQ := Lib.hid cmq; have CMM := Lib.hid cmm; have CDA := Lib.hid cda; have CUA := Lib.hid cua; have CMU := Lib.hid cmu; have CSU := Lib.hid csu; have CCA := Lib.hid cca; have CCB := Lib.hid ccb
  clear cdn cup cdm cmq cmm cda cua cmu csu cca ccb hq hn fq gl gh gm fl fh fm fn sq1 sq2 sl1 sl2 sh1 sh2 sn1 sn2 sp td hex e1 e2 e3 t1 t2
  obtain ⟨z3, hz3, b3, f3⟩ := box_one z2 N D
  have V3 := Lib.hid hz3; have F3 := Lib.hid f3
  clear hz3 f3
  have B3 := Lib.hid b3
  have P3 := Lib.hid (below_up P2.out b3)
  clear b3
  go_wp2_with (rw [V3.out])
  refine (PICK.out _).mono ?_
  rintro e zq103 ⟨rfl, rfl⟩
  go_wp2_with fail
  generalize z3 = zs at *
  go_loopw [7, 8] (fun v i wr => ∃ k : Nat, k ≤ n ∧ v = .string (powT k) ∧ i = .int .i64 k ∧ wr = zs) (fun _ i _ => n - (RowKit.intOf i).toNat)
  case atStart => exact ⟨0, Nat.zero_le _, by rw [H0.out], rfl, rfl⟩
  case round =>
    obtain ⟨kn, hkn, rfl, rfl, rfl⟩ := hrel
    have hn := HN.out
    by_cases hltn : kn < n
    · have h1 : (kn : Int) < (n : Int) := by omega
      have hsz := powT_size kn
      have hnx := Lib.hid (powT_succ kn)
      have hsz2 : (powT kn).size ≤ 400 := by omega
      clear hsz
      go_wp2
      go_roundw
      case rel => exact ⟨kn + 1, by omega, by rw [hnx.out], by go_num, trivial⟩
      case measure => simp [RowKit.intOf]; omega
    · have h1 : ¬ (kn : Int) < (n : Int) := by omega
      obtain rfl : n = kn := by omega
      clear hltn hkn hn
      generalize wr = z3 at *
      have HT := Lib.hid (show n = 0 → powT n = ⟨#[49]⟩ from fun e => by rw [e]; exact powT_zero)
      generalize powT n = TT at *
      cases ex with
      | false =>
        have CCA := Lib.hid (show ∀ W, Ready W → Calls Tryz.prog 20 #[.agg #[.string NA, .string DA], .agg #[.string N, .string D]] W fun e w' => e = .returned (.int .i64 (-1)) ∧ Below W.heap.size W w' from CCA.out)
        have CCB := Lib.hid (show ∀ W, Ready W → Calls Tryz.prog 20 #[.agg #[.string NB, .string DB], .agg #[.string N, .string D]] W fun e w' => e = .returned (.int .i64 1) ∧ Below W.heap.size W w' from CCB.out)
        have CSU := Lib.hid (show ∀ W, Ready W → Calls Tryz.prog 40 #[.agg #[.string NB, .string DB], .agg #[.string NA, .string DA]] W fun e w' => e = .returned (.tuple #[.agg #[.string ⟨#[49]⟩, .string TT], .int .i64 0]) ∧ Below W.heap.size W w' from CSU.out)
        obtain ⟨qr0, qr1, qr2, qr3⟩ := F3.out z3 (Below.refl _ _)
        go_wp2_with fail
        refine (CDN.out _ (HR0.out.below P3.out)).mono ?_
        rintro e z4 ⟨rfl, b4⟩
        have B4 := Lib.hid b4
        have P4 := Lib.hid (below_up P3.out b4)
        clear b4
        clear qr0 qr1 qr2 qr3
        obtain ⟨z5, hz5, b5, f5⟩ := box_one z4 NA DA
        have V5 := Lib.hid hz5; have F5 := Lib.hid f5
        clear hz5 f5
        have B5 := Lib.hid b5
        have P5 := Lib.hid (below_up P4.out b5)
        clear b5
        obtain ⟨qr0, qr1, qr2, qr3⟩ := F3.out z5 (below_up B4.out (below_up B5.out (Below.refl _ _)))
        go_wp2_with (rw [V5.out])
        refine (CUP.out _ (HR0.out.below P5.out)).mono ?_
        rintro e z6 ⟨rfl, b6⟩
        have B6 := Lib.hid b6
        have P6 := Lib.hid (below_up P5.out b6)
        clear b6
        clear qr0 qr1 qr2 qr3
        obtain ⟨z7, hz7, b7, f7⟩ := box_one z6 NB DB
        have V7 := Lib.hid hz7; have F7 := Lib.hid f7
        clear hz7 f7
        have B7 := Lib.hid b7
        have P7 := Lib.hid (below_up P6.out b7)
        clear b7
        obtain ⟨qr0, qr1, qr2, qr3⟩ := F3.out z7 (below_up B4.out (below_up B5.out (below_up B6.out (below_up B7.out (Below.refl _ _)))))
        go_wp2_with (rw [V7.out])
        refine (CMQ.out _ (HR0.out.below P7.out)).mono ?_
        rintro e z8 ⟨rfl, b8⟩
        have B8 := Lib.hid b8
        have P8 := Lib.hid (below_up P7.out b8)
        clear b8
        clear qr0 qr1 qr2 qr3
        go_wp2_with fail
        refine (CDM.out _ (HR0.out.below P8.out)).mono ?_
        rintro e z9 ⟨rfl, b9⟩
        have B9 := Lib.hid b9
        have P9 := Lib.hid (below_up P8.out b9)
        clear b9
        obtain ⟨z10, hz10, b10, f10⟩ := box_one z9 NC DC
        have V10 := Lib.hid hz10; have F10 := Lib.hid f10
        clear hz10 f10
        have B10 := Lib.hid b10
        have P10 := Lib.hid (below_up P9.out b10)
        clear b10
        go_upto_region 12 with (rw [V10.out])
        go_cut [83] from 56 to 83 (fun s83 wx => s83 = .bool false ∧ Hid (Below z10.heap.size z10 wx))
        case first =>
          have K := Lib.hid (show ∀ W, Below z10.heap.size z10 W → ((W.cell? ⟨z2.heap.size, 0, none⟩ = some (.string N) ∧ W.cell? ⟨z2.heap.size, 1, none⟩ = some (.string D)) ∧ (W.cell? ⟨z4.heap.size, 0, none⟩ = some (.string NA) ∧ W.cell? ⟨z4.heap.size, 1, none⟩ = some (.string DA)) ∧ (W.cell? ⟨z6.heap.size, 0, none⟩ = some (.string NB) ∧ W.cell? ⟨z6.heap.size, 1, none⟩ = some (.string DB)) ∧ (W.cell? ⟨z9.heap.size, 0, none⟩ = some (.string NC) ∧ W.cell? ⟨z9.heap.size, 1, none⟩ = some (.string DC))) from fun W b => ⟨⟨(F3.out W (below_up B4.out (below_up B5.out (below_up B6.out (below_up B7.out (below_up B8.out (below_up B9.out (below_up B10.out b)))))))).1, (F3.out W (below_up B4.out (below_up B5.out (below_up B6.out (below_up B7.out (below_up B8.out (below_up B9.out (below_up B10.out b)))))))).2.1⟩, ⟨(F5.out W (below_up B6.out (below_up B7.out (below_up B8.out (below_up B9.out (below_up B10.out b)))))).1, (F5.out W (below_up B6.out (below_up B7.out (below_up B8.out (below_up B9.out (below_up B10.out b)))))).2.1⟩, ⟨(F7.out W (below_up B8.out (below_up B9.out (below_up B10.out b)))).1, (F7.out W (below_up B8.out (below_up B9.out (below_up B10.out b)))).2.1⟩, ⟨(F10.out W b).1, (F10.out W b).2.1⟩⟩)
          have HRz := Lib.hid (HR0.out.below P10.out)
          have g := Below.refl z10.heap.size z10
          go_region_held3 (fun W => (W.cell? ⟨z2.heap.size, 0, none⟩ = some (.string N) ∧ W.cell? ⟨z2.heap.size, 1, none⟩ = some (.string D)) ∧ (W.cell? ⟨z4.heap.size, 0, none⟩ = some (.string NA) ∧ W.cell? ⟨z4.heap.size, 1, none⟩ = some (.string DA)) ∧ (W.cell? ⟨z6.heap.size, 0, none⟩ = some (.string NB) ∧ W.cell? ⟨z6.heap.size, 1, none⟩ = some (.string DB)) ∧ (W.cell? ⟨z9.heap.size, 0, none⟩ = some (.string NC) ∧ W.cell? ⟨z9.heap.size, 1, none⟩ = some (.string DC))) (first | exact K.out _ g | exact K.out _ ⟨g.os, g.tape, g.output, g.size, g.block⟩) (first | (go_at_call 42; (with_reducible refine (CMM.out _ ?_).mono ?_); (first | exact HRz.out.below g | exact HRz.out.below ⟨g.os, g.tape, g.output, g.size, g.block⟩); (rintro e y ⟨rfl, k'⟩); (have g : Below z10.heap.size z10 y := below_up (by first | exact g | exact ⟨g.os, g.tape, g.output, g.size, g.block⟩) k')) | (go_at_call 20; (with_reducible refine (CCA.out _ ?_).mono ?_); (first | exact HRz.out.below g | exact HRz.out.below ⟨g.os, g.tape, g.output, g.size, g.block⟩); (rintro e y ⟨rfl, k'⟩); (have g : Below z10.heap.size z10 y := below_up (by first | exact g | exact ⟨g.os, g.tape, g.output, g.size, g.block⟩) k')) | (go_at_call 20; (with_reducible refine (CCB.out _ ?_).mono ?_); (first | exact HRz.out.below g | exact HRz.out.below ⟨g.os, g.tape, g.output, g.size, g.block⟩); (rintro e y ⟨rfl, k'⟩); (have g : Below z10.heap.size z10 y := below_up (by first | exact g | exact ⟨g.os, g.tape, g.output, g.size, g.block⟩) k')))
          all_goals (go_wp2_with fail; go_meet; first | exact ⟨rfl, Lib.hid g⟩ | exact ⟨rfl, Lib.hid ⟨g.os, g.tape, g.output, g.size, g.block⟩⟩)
        case rest =>
          obtain ⟨rfl, hbx⟩ := hcut
          generalize wc = z11 at *
          have B11 := hbx
          have P11 := Lib.hid (below_up P10.out hbx.out)
          clear hbx
          obtain ⟨qb0, qb1, qb2, qb3⟩ := F7.out z11 (below_up B8.out (below_up B9.out (below_up B10.out (below_up B11.out (Below.refl _ _)))))
          go_wp2_with fail
          refine (CDA.out _ (HR0.out.below P11.out)).mono ?_
          rintro e z12 ⟨rfl, b12⟩
          have B12 := Lib.hid b12
          have P12 := Lib.hid (below_up P11.out b12)
          clear b12
          clear qb0 qb1 qb2 qb3
          obtain ⟨z13, hz13, b13, f13⟩ := box_one z12 NB DB
          have V13 := Lib.hid hz13; have F13 := Lib.hid f13
          clear hz13 f13
          have B13 := Lib.hid b13
          have P13 := Lib.hid (below_up P12.out b13)
          clear b13
          obtain ⟨qa0, qa1, qa2, qa3⟩ := F5.out z13 (below_up B6.out (below_up B7.out (below_up B8.out (below_up B9.out (below_up B10.out (below_up B11.out (below_up B12.out (below_up B13.out (Below.refl _ _)))))))))
          go_wp2_with (rw [V13.out])
          refine (CUA.out _ (HR0.out.below P13.out)).mono ?_
          rintro e z14 ⟨rfl, b14⟩
          have B14 := Lib.hid b14
          have P14 := Lib.hid (below_up P13.out b14)
          clear b14
          clear qa0 qa1 qa2 qa3
          obtain ⟨z15, hz15, b15, f15⟩ := box_one z14 NA DA
          have V15 := Lib.hid hz15; have F15 := Lib.hid f15
          clear hz15 f15
          have B15 := Lib.hid b15
          have P15 := Lib.hid (below_up P14.out b15)
          clear b15
          go_upto_region 16 with (rw [V15.out])
          go_cut [19, 20] from 96 to 102 (fun sp se wx => se = .int .i64 0 ∧ ∃ A : Nat, sp = .pointer (some ⟨A, 0, none⟩) ∧ Hid (RatAt wx A MN ⟨#[49]⟩) ∧ Hid (Below z15.heap.size z15 wx))
          case first =>
            have K3 := Lib.hid (fun W (b : Below z15.heap.size z15 W) => And.intro (F5.out W (below_up B6.out (below_up B7.out (below_up B8.out (below_up B9.out (below_up B10.out (below_up B11.out (below_up B12.out (below_up B13.out (below_up B14.out (below_up B15.out b))))))))))).1 (F5.out W (below_up B6.out (below_up B7.out (below_up B8.out (below_up B9.out (below_up B10.out (below_up B11.out (below_up B12.out (below_up B13.out (below_up B14.out (below_up B15.out b))))))))))).2.1)
            go_region_held3 (fun W => W.cell? ⟨z4.heap.size, 0, none⟩ = some (.string NA) ∧ W.cell? ⟨z4.heap.size, 1, none⟩ = some (.string DA)) (first | exact K3.out _ ⟨rfl, rfl, rfl, Nat.le_refl _, fun _ _ => rfl⟩ | exact K3.out _ (((Below.refl _ _).alloc (Nat.le_refl _) _).drew) | exact K3.out _ ((Below.refl _ _).drew.alloc (Nat.le_refl _) _) | exact K3.out _ h2 | exact K3.out _ (h2.alloc h2.size _) | exact K3.out _ ((h2.setCell (p := _) (by first | exact Nat.le_refl _ | exact h1.size) _).setCell (p := _) (by first | exact Nat.le_refl _ | exact h1.size) _) | exact K3.out _ h1 | exact K3.out _ (h1.alloc h1.size _)) (first | (go_at_call 41; (with_reducible refine (IS.out _ _ _).mono ?_); (rintro e y1 ⟨rfl, hb1'⟩); (have h1 : Below z15.heap.size z15 y1 := below_up (by first | exact (Below.refl _ _).drew | exact ((Below.refl _ _).alloc (Nat.le_refl _) _).drew | exact ((Below.refl _ _).drew.alloc (Nat.le_refl _) _)) hb1'); (first | (have e1 : RatAt y1 z15.heap.size ⟨#[]⟩ ⟨#[]⟩ := ratAt_alloc (W := z15) (t := 23) ⟨hb1'.os, hb1'.tape, hb1'.output, hb1'.size, hb1'.block⟩) | (have e1 : RatAt y1 z15.heap.size ⟨#[]⟩ ⟨#[]⟩ := ratAt_alloc (W := z15.drew) (t := 23) hb1') | skip)) | (go_at_call 39; (refine (CMU.out _ (HR0.out.below (below_up P15.out (by first | exact h1 | exact h1.alloc h1.size _)))).mono ?_); (rintro e y2 ⟨rfl, hb2'⟩); (have h2 : Below z15.heap.size z15 y2 := below_up (by first | exact h1 | exact h1.alloc h1.size _) hb2'); (first | ((have e2 := RatAt.below e1 hb2'); (obtain ⟨q1, q2, q3, q4⟩ := e2)) | ((have e2 := ratAt_alloc (W := y1) hb2'); (obtain ⟨q1, q2, q3, q4⟩ := e2)) | skip)))
            all_goals (go_wp2_with fail; go_meet; exact ⟨rfl, _, rfl, by first | exact ratAt_of (heap_alloc_new _ _) | exact ratAt_set (n := ⟨#[]⟩) (d := ⟨#[]⟩) ⟨q1, q2, q3, q4⟩, by first | exact h2.alloc h2.size _ | exact (h2.setCell (p := _) (by first | exact Nat.le_refl _ | exact h1.size) _).setCell (p := _) (by first | exact Nat.le_refl _ | exact h1.size) _⟩)
          case rest =>
            obtain ⟨rfl, AD, rfl, hrat, hbx⟩ := hcut
            generalize wc = z16 at *
            have B16 := Lib.hid hbx.out
            have P16 := Lib.hid (below_up P15.out hbx.out)
            have F16 := Lib.hid (fun W (b : Below z16.heap.size z16 W) => RatAt.below hrat.out b)
            clear hbx hrat
            obtain ⟨qa0, qa1, qa2, qa3⟩ := F5.out z16 (below_up B6.out (below_up B7.out (below_up B8.out (below_up B9.out (below_up B10.out (below_up B11.out (below_up B12.out (below_up B13.out (below_up B14.out (below_up B15.out (below_up B16.out (Below.refl _ _))))))))))))
            obtain ⟨qb0, qb1, qb2, qb3⟩ := F7.out z16 (below_up B8.out (below_up B9.out (below_up B10.out (below_up B11.out (below_up B12.out (below_up B13.out (below_up B14.out (below_up B15.out (below_up B16.out (Below.refl _ _))))))))))
            go_wp2_with fail
            refine (CSU.out _ (HR0.out.below P16.out)).mono ?_
            rintro e z17 ⟨rfl, b17⟩
            have B17 := Lib.hid b17
            have P17 := Lib.hid (below_up P16.out b17)
            clear b17
            clear qa0 qa1 qa2 qa3 qb0 qb1 qb2 qb3
            obtain ⟨z18, hz18, b18, f18⟩ := box_one z17 ⟨#[49]⟩ TT
            have V18 := Lib.hid hz18; have F18 := Lib.hid f18
            clear hz18 f18
            have B18 := Lib.hid b18
            have P18 := Lib.hid (below_up P17.out b18)
            clear b18
            obtain ⟨qa0, qa1, qa2, qa3⟩ := F5.out z18 (below_up B6.out (below_up B7.out (below_up B8.out (below_up B9.out (below_up B10.out (below_up B11.out (below_up B12.out (below_up B13.out (below_up B14.out (below_up B15.out (below_up B16.out (below_up B17.out (below_up B18.out (Below.refl _ _))))))))))))))
            obtain ⟨qr0, qr1, qr2, qr3⟩ := F3.out z18 (below_up B4.out (below_up B5.out (below_up B6.out (below_up B7.out (below_up B8.out (below_up B9.out (below_up B10.out (below_up B11.out (below_up B12.out (below_up B13.out (below_up B14.out (below_up B15.out (below_up B16.out (below_up B17.out (below_up B18.out (Below.refl _ _))))))))))))))))
            go_wp2_with (rw [V18.out])
            refine (CCA.out _ (HR0.out.below P18.out)).mono ?_
            rintro e z19 ⟨rfl, b19⟩
            have B19 := Lib.hid b19
            have P19 := Lib.hid (below_up P18.out b19)
            clear b19
            clear qa0 qa1 qa2 qa3 qr0 qr1 qr2 qr3
            go_wp2_with fail
            refine (IS.out _ _ _).mono ?_
            rintro e z20 ⟨rfl, b20⟩
            have B20 := Lib.hid b20
            have P20 := Lib.hid (below_up P19.out b20)
            clear b20
            obtain ⟨z21, hz21, b21, f21⟩ := box_one z20 ⟨#[49]⟩ TT
            have V21 := Lib.hid hz21; have F21 := Lib.hid f21
            clear hz21 f21
            have B21 := Lib.hid b21
            have P21 := Lib.hid (below_up P20.out b21)
            clear b21
            by_cases hz0 : n = 0
            · skip
              subst hz0
              obtain rfl : TT = ⟨#[49]⟩ := HT.out rfl
              go_wp2_with (rw [V21.out])
              refine (IS.out _ _ _).mono ?_
              rintro e z22 ⟨rfl, b22⟩
              have B22 := Lib.hid b22
              have P22 := Lib.hid (below_up P21.out b22)
              clear b22
              obtain ⟨ow230, ow231, ow232, ow233⟩ := F21.out z22 (below_up B22.out (Below.refl _ _))
              obtain ⟨z23, hz23⟩ : ∃ y, (z22.setCell ⟨z20.heap.size, 0, none⟩ (.string ⟨#[49]⟩)).setCell ⟨z20.heap.size, 1, none⟩ (.string ⟨#[49]⟩) = y := ⟨_, rfl⟩
              have b23 : Below z20.heap.size z20 z23 := by rw [← hz23]; exact (Below.setCell (p := ⟨z20.heap.size, 0, none⟩) (below_up B21.out (below_up B22.out (Below.refl _ _))) (Nat.le_refl _) _).setCell (p := ⟨z20.heap.size, 1, none⟩) (Nat.le_refl _) _
              have F23 := Lib.hid (fun W (b : Below z23.heap.size z23 W) => RatAt.below (show RatAt z23 z20.heap.size ⟨#[49]⟩ ⟨#[49]⟩ by rw [← hz23]; exact ratAt_set (F21.out _ (below_up B22.out (Below.refl _ _)))) b)
              have V23 := Lib.hid hz23
              clear hz23
              have B23 := Lib.hid b23
              have P23 := Lib.hid (below_up P20.out b23)
              clear b23
              obtain ⟨qr0, qr1, qr2, qr3⟩ := F3.out z23 (below_up B4.out (below_up B5.out (below_up B6.out (below_up B7.out (below_up B8.out (below_up B9.out (below_up B10.out (below_up B11.out (below_up B12.out (below_up B13.out (below_up B14.out (below_up B15.out (below_up B16.out (below_up B17.out (below_up B18.out (below_up B19.out (below_up B20.out (below_up B23.out (Below.refl _ _)))))))))))))))))))
              obtain ⟨qa0, qa1, qa2, qa3⟩ := F5.out z23 (below_up B6.out (below_up B7.out (below_up B8.out (below_up B9.out (below_up B10.out (below_up B11.out (below_up B12.out (below_up B13.out (below_up B14.out (below_up B15.out (below_up B16.out (below_up B17.out (below_up B18.out (below_up B19.out (below_up B20.out (below_up B23.out (Below.refl _ _)))))))))))))))))
              obtain ⟨qb0, qb1, qb2, qb3⟩ := F7.out z23 (below_up B8.out (below_up B9.out (below_up B10.out (below_up B11.out (below_up B12.out (below_up B13.out (below_up B14.out (below_up B15.out (below_up B16.out (below_up B17.out (below_up B18.out (below_up B19.out (below_up B20.out (below_up B23.out (Below.refl _ _)))))))))))))))
              obtain ⟨qagain0, qagain1, qagain2, qagain3⟩ := F13.out z23 (below_up B14.out (below_up B15.out (below_up B16.out (below_up B17.out (below_up B18.out (below_up B19.out (below_up B20.out (below_up B23.out (Below.refl _ _)))))))))
              obtain ⟨qtwice0, qtwice1, qtwice2, qtwice3⟩ := F15.out z23 (below_up B16.out (below_up B17.out (below_up B18.out (below_up B19.out (below_up B20.out (below_up B23.out (Below.refl _ _)))))))
              obtain ⟨qnn0, qnn1, qnn2, qnn3⟩ := F16.out z23 (below_up B17.out (below_up B18.out (below_up B19.out (below_up B20.out (below_up B23.out (Below.refl _ _))))))
              obtain ⟨qwidth0, qwidth1, qwidth2, qwidth3⟩ := F18.out z23 (below_up B19.out (below_up B20.out (below_up B23.out (Below.refl _ _))))
              obtain ⟨qwant0, qwant1, qwant2, qwant3⟩ := F23.out z23 (Below.refl _ _)
              go_wp2_with (rw [V23.out])
              refine (CCB.out _ (HR0.out.below P23.out)).mono ?_
              rintro e z24 ⟨rfl, b24⟩
              have B24 := Lib.hid b24
              have P24 := Lib.hid (below_up P23.out b24)
              clear b24
              go_wp2
              go_ret
              exact ⟨rfl, below_up HB0.out P24.out⟩
            · skip
              have hzb : ((n : Int) == 0) = false := by rw [beq_eq_false_iff_ne]; omega
              clear hz0
              obtain ⟨qr0, qr1, qr2, qr3⟩ := F3.out z21 (below_up B4.out (below_up B5.out (below_up B6.out (below_up B7.out (below_up B8.out (below_up B9.out (below_up B10.out (below_up B11.out (below_up B12.out (below_up B13.out (below_up B14.out (below_up B15.out (below_up B16.out (below_up B17.out (below_up B18.out (below_up B19.out (below_up B20.out (below_up B21.out (Below.refl _ _)))))))))))))))))))
              obtain ⟨qa0, qa1, qa2, qa3⟩ := F5.out z21 (below_up B6.out (below_up B7.out (below_up B8.out (below_up B9.out (below_up B10.out (below_up B11.out (below_up B12.out (below_up B13.out (below_up B14.out (below_up B15.out (below_up B16.out (below_up B17.out (below_up B18.out (below_up B19.out (below_up B20.out (below_up B21.out (Below.refl _ _)))))))))))))))))
              obtain ⟨qb0, qb1, qb2, qb3⟩ := F7.out z21 (below_up B8.out (below_up B9.out (below_up B10.out (below_up B11.out (below_up B12.out (below_up B13.out (below_up B14.out (below_up B15.out (below_up B16.out (below_up B17.out (below_up B18.out (below_up B19.out (below_up B20.out (below_up B21.out (Below.refl _ _)))))))))))))))
              obtain ⟨qagain0, qagain1, qagain2, qagain3⟩ := F13.out z21 (below_up B14.out (below_up B15.out (below_up B16.out (below_up B17.out (below_up B18.out (below_up B19.out (below_up B20.out (below_up B21.out (Below.refl _ _)))))))))
              obtain ⟨qtwice0, qtwice1, qtwice2, qtwice3⟩ := F15.out z21 (below_up B16.out (below_up B17.out (below_up B18.out (below_up B19.out (below_up B20.out (below_up B21.out (Below.refl _ _)))))))
              obtain ⟨qnn0, qnn1, qnn2, qnn3⟩ := F16.out z21 (below_up B17.out (below_up B18.out (below_up B19.out (below_up B20.out (below_up B21.out (Below.refl _ _))))))
              obtain ⟨qwidth0, qwidth1, qwidth2, qwidth3⟩ := F18.out z21 (below_up B19.out (below_up B20.out (below_up B21.out (Below.refl _ _))))
              obtain ⟨qwant0, qwant1, qwant2, qwant3⟩ := F21.out z21 (Below.refl _ _)
              go_wp2_with (rw [V21.out])
              refine (CCB.out _ (HR0.out.below P21.out)).mono ?_
              rintro e z22 ⟨rfl, b22⟩
              have B22 := Lib.hid b22
              have P22 := Lib.hid (below_up P21.out b22)
              clear b22
              go_wp2
              go_ret
              exact ⟨rfl, below_up HB0.out P22.out⟩
      | true =>
        have CCA := Lib.hid (show ∀ W, Ready W → Calls Tryz.prog 20 #[.agg #[.string NA, .string DA], .agg #[.string N, .string D]] W fun e w' => e = .returned (.int .i64 0) ∧ Below W.heap.size W w' from CCA.out)
        have CCB := Lib.hid (show ∀ W, Ready W → Calls Tryz.prog 20 #[.agg #[.string NB, .string DB], .agg #[.string N, .string D]] W fun e w' => e = .returned (.int .i64 0) ∧ Below W.heap.size W w' from CCB.out)
        have CSU := Lib.hid (show ∀ W, Ready W → Calls Tryz.prog 40 #[.agg #[.string NB, .string DB], .agg #[.string NA, .string DA]] W fun e w' => e = .returned (.tuple #[.agg #[.string ⟨#[48]⟩, .string ⟨#[49]⟩], .int .i64 0]) ∧ Below W.heap.size W w' from CSU.out)
        obtain ⟨qr0, qr1, qr2, qr3⟩ := F3.out z3 (Below.refl _ _)
        go_wp2_with fail
        refine (CDN.out _ (HR0.out.below P3.out)).mono ?_
        rintro e z4 ⟨rfl, b4⟩
        have B4 := Lib.hid b4
        have P4 := Lib.hid (below_up P3.out b4)
        clear b4
        clear qr0 qr1 qr2 qr3
        obtain ⟨z5, hz5, b5, f5⟩ := box_one z4 NA DA
        have V5 := Lib.hid hz5; have F5 := Lib.hid f5
        clear hz5 f5
        have B5 := Lib.hid b5
        have P5 := Lib.hid (below_up P4.out b5)
        clear b5
        obtain ⟨qr0, qr1, qr2, qr3⟩ := F3.out z5 (below_up B4.out (below_up B5.out (Below.refl _ _)))
        go_wp2_with (rw [V5.out])
        refine (CUP.out _ (HR0.out.below P5.out)).mono ?_
        rintro e z6 ⟨rfl, b6⟩
        have B6 := Lib.hid b6
        have P6 := Lib.hid (below_up P5.out b6)
        clear b6
        clear qr0 qr1 qr2 qr3
        obtain ⟨z7, hz7, b7, f7⟩ := box_one z6 NB DB
        have V7 := Lib.hid hz7; have F7 := Lib.hid f7
        clear hz7 f7
        have B7 := Lib.hid b7
        have P7 := Lib.hid (below_up P6.out b7)
        clear b7
        obtain ⟨qr0, qr1, qr2, qr3⟩ := F3.out z7 (below_up B4.out (below_up B5.out (below_up B6.out (below_up B7.out (Below.refl _ _)))))
        go_wp2_with (rw [V7.out])
        refine (CMQ.out _ (HR0.out.below P7.out)).mono ?_
        rintro e z8 ⟨rfl, b8⟩
        have B8 := Lib.hid b8
        have P8 := Lib.hid (below_up P7.out b8)
        clear b8
        clear qr0 qr1 qr2 qr3
        go_wp2_with fail
        refine (CDM.out _ (HR0.out.below P8.out)).mono ?_
        rintro e z9 ⟨rfl, b9⟩
        have B9 := Lib.hid b9
        have P9 := Lib.hid (below_up P8.out b9)
        clear b9
        obtain ⟨z10, hz10, b10, f10⟩ := box_one z9 NC DC
        have V10 := Lib.hid hz10; have F10 := Lib.hid f10
        clear hz10 f10
        have B10 := Lib.hid b10
        have P10 := Lib.hid (below_up P9.out b10)
        clear b10
        go_upto_region 12 with (rw [V10.out])
        go_cut [83] from 56 to 83 (fun s83 wx => s83 = .bool false ∧ Hid (Below z10.heap.size z10 wx))
        case first =>
          have K := Lib.hid (show ∀ W, Below z10.heap.size z10 W → ((W.cell? ⟨z2.heap.size, 0, none⟩ = some (.string N) ∧ W.cell? ⟨z2.heap.size, 1, none⟩ = some (.string D)) ∧ (W.cell? ⟨z4.heap.size, 0, none⟩ = some (.string NA) ∧ W.cell? ⟨z4.heap.size, 1, none⟩ = some (.string DA)) ∧ (W.cell? ⟨z6.heap.size, 0, none⟩ = some (.string NB) ∧ W.cell? ⟨z6.heap.size, 1, none⟩ = some (.string DB)) ∧ (W.cell? ⟨z9.heap.size, 0, none⟩ = some (.string NC) ∧ W.cell? ⟨z9.heap.size, 1, none⟩ = some (.string DC))) from fun W b => ⟨⟨(F3.out W (below_up B4.out (below_up B5.out (below_up B6.out (below_up B7.out (below_up B8.out (below_up B9.out (below_up B10.out b)))))))).1, (F3.out W (below_up B4.out (below_up B5.out (below_up B6.out (below_up B7.out (below_up B8.out (below_up B9.out (below_up B10.out b)))))))).2.1⟩, ⟨(F5.out W (below_up B6.out (below_up B7.out (below_up B8.out (below_up B9.out (below_up B10.out b)))))).1, (F5.out W (below_up B6.out (below_up B7.out (below_up B8.out (below_up B9.out (below_up B10.out b)))))).2.1⟩, ⟨(F7.out W (below_up B8.out (below_up B9.out (below_up B10.out b)))).1, (F7.out W (below_up B8.out (below_up B9.out (below_up B10.out b)))).2.1⟩, ⟨(F10.out W b).1, (F10.out W b).2.1⟩⟩)
          have HRz := Lib.hid (HR0.out.below P10.out)
          have g := Below.refl z10.heap.size z10
          go_region_held3 (fun W => (W.cell? ⟨z2.heap.size, 0, none⟩ = some (.string N) ∧ W.cell? ⟨z2.heap.size, 1, none⟩ = some (.string D)) ∧ (W.cell? ⟨z4.heap.size, 0, none⟩ = some (.string NA) ∧ W.cell? ⟨z4.heap.size, 1, none⟩ = some (.string DA)) ∧ (W.cell? ⟨z6.heap.size, 0, none⟩ = some (.string NB) ∧ W.cell? ⟨z6.heap.size, 1, none⟩ = some (.string DB)) ∧ (W.cell? ⟨z9.heap.size, 0, none⟩ = some (.string NC) ∧ W.cell? ⟨z9.heap.size, 1, none⟩ = some (.string DC))) (first | exact K.out _ g | exact K.out _ ⟨g.os, g.tape, g.output, g.size, g.block⟩) (first | (go_at_call 42; (with_reducible refine (CMM.out _ ?_).mono ?_); (first | exact HRz.out.below g | exact HRz.out.below ⟨g.os, g.tape, g.output, g.size, g.block⟩); (rintro e y ⟨rfl, k'⟩); (have g : Below z10.heap.size z10 y := below_up (by first | exact g | exact ⟨g.os, g.tape, g.output, g.size, g.block⟩) k')) | (go_at_call 20; (with_reducible refine (CCA.out _ ?_).mono ?_); (first | exact HRz.out.below g | exact HRz.out.below ⟨g.os, g.tape, g.output, g.size, g.block⟩); (rintro e y ⟨rfl, k'⟩); (have g : Below z10.heap.size z10 y := below_up (by first | exact g | exact ⟨g.os, g.tape, g.output, g.size, g.block⟩) k')) | (go_at_call 20; (with_reducible refine (CCB.out _ ?_).mono ?_); (first | exact HRz.out.below g | exact HRz.out.below ⟨g.os, g.tape, g.output, g.size, g.block⟩); (rintro e y ⟨rfl, k'⟩); (have g : Below z10.heap.size z10 y := below_up (by first | exact g | exact ⟨g.os, g.tape, g.output, g.size, g.block⟩) k')))
          all_goals (go_wp2_with fail; go_meet; first | exact ⟨rfl, Lib.hid g⟩ | exact ⟨rfl, Lib.hid ⟨g.os, g.tape, g.output, g.size, g.block⟩⟩)
        case rest =>
          obtain ⟨rfl, hbx⟩ := hcut
          generalize wc = z11 at *
          have B11 := hbx
          have P11 := Lib.hid (below_up P10.out hbx.out)
          clear hbx
          obtain ⟨qb0, qb1, qb2, qb3⟩ := F7.out z11 (below_up B8.out (below_up B9.out (below_up B10.out (below_up B11.out (Below.refl _ _)))))
          go_wp2_with fail
          refine (CDA.out _ (HR0.out.below P11.out)).mono ?_
          rintro e z12 ⟨rfl, b12⟩
          have B12 := Lib.hid b12
          have P12 := Lib.hid (below_up P11.out b12)
          clear b12
          clear qb0 qb1 qb2 qb3
          obtain ⟨z13, hz13, b13, f13⟩ := box_one z12 NB DB
          have V13 := Lib.hid hz13; have F13 := Lib.hid f13
          clear hz13 f13
          have B13 := Lib.hid b13
          have P13 := Lib.hid (below_up P12.out b13)
          clear b13
          obtain ⟨qa0, qa1, qa2, qa3⟩ := F5.out z13 (below_up B6.out (below_up B7.out (below_up B8.out (below_up B9.out (below_up B10.out (below_up B11.out (below_up B12.out (below_up B13.out (Below.refl _ _)))))))))
          go_wp2_with (rw [V13.out])
          refine (CUA.out _ (HR0.out.below P13.out)).mono ?_
          rintro e z14 ⟨rfl, b14⟩
          have B14 := Lib.hid b14
          have P14 := Lib.hid (below_up P13.out b14)
          clear b14
          clear qa0 qa1 qa2 qa3
          obtain ⟨z15, hz15, b15, f15⟩ := box_one z14 NA DA
          have V15 := Lib.hid hz15; have F15 := Lib.hid f15
          clear hz15 f15
          have B15 := Lib.hid b15
          have P15 := Lib.hid (below_up P14.out b15)
          clear b15
          go_upto_region 16 with (rw [V15.out])
          go_cut [19, 20] from 96 to 102 (fun sp se wx => se = .int .i64 0 ∧ ∃ A : Nat, sp = .pointer (some ⟨A, 0, none⟩) ∧ Hid (RatAt wx A MN ⟨#[49]⟩) ∧ Hid (Below z15.heap.size z15 wx))
          case first =>
            have K3 := Lib.hid (fun W (b : Below z15.heap.size z15 W) => And.intro (F5.out W (below_up B6.out (below_up B7.out (below_up B8.out (below_up B9.out (below_up B10.out (below_up B11.out (below_up B12.out (below_up B13.out (below_up B14.out (below_up B15.out b))))))))))).1 (F5.out W (below_up B6.out (below_up B7.out (below_up B8.out (below_up B9.out (below_up B10.out (below_up B11.out (below_up B12.out (below_up B13.out (below_up B14.out (below_up B15.out b))))))))))).2.1)
            go_region_held3 (fun W => W.cell? ⟨z4.heap.size, 0, none⟩ = some (.string NA) ∧ W.cell? ⟨z4.heap.size, 1, none⟩ = some (.string DA)) (first | exact K3.out _ ⟨rfl, rfl, rfl, Nat.le_refl _, fun _ _ => rfl⟩ | exact K3.out _ (((Below.refl _ _).alloc (Nat.le_refl _) _).drew) | exact K3.out _ ((Below.refl _ _).drew.alloc (Nat.le_refl _) _) | exact K3.out _ h2 | exact K3.out _ (h2.alloc h2.size _) | exact K3.out _ ((h2.setCell (p := _) (by first | exact Nat.le_refl _ | exact h1.size) _).setCell (p := _) (by first | exact Nat.le_refl _ | exact h1.size) _) | exact K3.out _ h1 | exact K3.out _ (h1.alloc h1.size _)) (first | (go_at_call 41; (with_reducible refine (IS.out _ _ _).mono ?_); (rintro e y1 ⟨rfl, hb1'⟩); (have h1 : Below z15.heap.size z15 y1 := below_up (by first | exact (Below.refl _ _).drew | exact ((Below.refl _ _).alloc (Nat.le_refl _) _).drew | exact ((Below.refl _ _).drew.alloc (Nat.le_refl _) _)) hb1'); (first | (have e1 : RatAt y1 z15.heap.size ⟨#[]⟩ ⟨#[]⟩ := ratAt_alloc (W := z15) (t := 23) ⟨hb1'.os, hb1'.tape, hb1'.output, hb1'.size, hb1'.block⟩) | (have e1 : RatAt y1 z15.heap.size ⟨#[]⟩ ⟨#[]⟩ := ratAt_alloc (W := z15.drew) (t := 23) hb1') | skip)) | (go_at_call 39; (refine (CMU.out _ (HR0.out.below (below_up P15.out (by first | exact h1 | exact h1.alloc h1.size _)))).mono ?_); (rintro e y2 ⟨rfl, hb2'⟩); (have h2 : Below z15.heap.size z15 y2 := below_up (by first | exact h1 | exact h1.alloc h1.size _) hb2'); (first | ((have e2 := RatAt.below e1 hb2'); (obtain ⟨q1, q2, q3, q4⟩ := e2)) | ((have e2 := ratAt_alloc (W := y1) hb2'); (obtain ⟨q1, q2, q3, q4⟩ := e2)) | skip)))
            all_goals (go_wp2_with fail; go_meet; exact ⟨rfl, _, rfl, by first | exact ratAt_of (heap_alloc_new _ _) | exact ratAt_set (n := ⟨#[]⟩) (d := ⟨#[]⟩) ⟨q1, q2, q3, q4⟩, by first | exact h2.alloc h2.size _ | exact (h2.setCell (p := _) (by first | exact Nat.le_refl _ | exact h1.size) _).setCell (p := _) (by first | exact Nat.le_refl _ | exact h1.size) _⟩)
          case rest =>
            obtain ⟨rfl, AD, rfl, hrat, hbx⟩ := hcut
            generalize wc = z16 at *
            have B16 := Lib.hid hbx.out
            have P16 := Lib.hid (below_up P15.out hbx.out)
            have F16 := Lib.hid (fun W (b : Below z16.heap.size z16 W) => RatAt.below hrat.out b)
            clear hbx hrat
            obtain ⟨qa0, qa1, qa2, qa3⟩ := F5.out z16 (below_up B6.out (below_up B7.out (below_up B8.out (below_up B9.out (below_up B10.out (below_up B11.out (below_up B12.out (below_up B13.out (below_up B14.out (below_up B15.out (below_up B16.out (Below.refl _ _))))))))))))
            obtain ⟨qb0, qb1, qb2, qb3⟩ := F7.out z16 (below_up B8.out (below_up B9.out (below_up B10.out (below_up B11.out (below_up B12.out (below_up B13.out (below_up B14.out (below_up B15.out (below_up B16.out (Below.refl _ _))))))))))
            go_wp2_with fail
            refine (CSU.out _ (HR0.out.below P16.out)).mono ?_
            rintro e z17 ⟨rfl, b17⟩
            have B17 := Lib.hid b17
            have P17 := Lib.hid (below_up P16.out b17)
            clear b17
            clear qa0 qa1 qa2 qa3 qb0 qb1 qb2 qb3
            obtain ⟨z18, hz18, b18, f18⟩ := box_one z17 ⟨#[48]⟩ ⟨#[49]⟩
            have V18 := Lib.hid hz18; have F18 := Lib.hid f18
            clear hz18 f18
            have B18 := Lib.hid b18
            have P18 := Lib.hid (below_up P17.out b18)
            clear b18
            obtain ⟨qa0, qa1, qa2, qa3⟩ := F5.out z18 (below_up B6.out (below_up B7.out (below_up B8.out (below_up B9.out (below_up B10.out (below_up B11.out (below_up B12.out (below_up B13.out (below_up B14.out (below_up B15.out (below_up B16.out (below_up B17.out (below_up B18.out (Below.refl _ _))))))))))))))
            obtain ⟨qr0, qr1, qr2, qr3⟩ := F3.out z18 (below_up B4.out (below_up B5.out (below_up B6.out (below_up B7.out (below_up B8.out (below_up B9.out (below_up B10.out (below_up B11.out (below_up B12.out (below_up B13.out (below_up B14.out (below_up B15.out (below_up B16.out (below_up B17.out (below_up B18.out (Below.refl _ _))))))))))))))))
            go_wp2_with (rw [V18.out])
            refine (CCA.out _ (HR0.out.below P18.out)).mono ?_
            rintro e z19 ⟨rfl, b19⟩
            have B19 := Lib.hid b19
            have P19 := Lib.hid (below_up P18.out b19)
            clear b19
            clear qa0 qa1 qa2 qa3 qr0 qr1 qr2 qr3
            go_wp2_with fail
            refine (IS.out _ _ _).mono ?_
            rintro e z20 ⟨rfl, b20⟩
            have B20 := Lib.hid b20
            have P20 := Lib.hid (below_up P19.out b20)
            clear b20
            obtain ⟨z21, hz21, b21, f21⟩ := box_one z20 ⟨#[49]⟩ TT
            have V21 := Lib.hid hz21; have F21 := Lib.hid f21
            clear hz21 f21
            have B21 := Lib.hid b21
            have P21 := Lib.hid (below_up P20.out b21)
            clear b21
            by_cases hz0 : n = 0
            · skip
              subst hz0
              obtain rfl : TT = ⟨#[49]⟩ := HT.out rfl
              go_wp2_with (rw [V21.out])
              refine (IS.out _ _ _).mono ?_
              rintro e z22 ⟨rfl, b22⟩
              have B22 := Lib.hid b22
              have P22 := Lib.hid (below_up P21.out b22)
              clear b22
              obtain ⟨ow230, ow231, ow232, ow233⟩ := F21.out z22 (below_up B22.out (Below.refl _ _))
              obtain ⟨z23, hz23⟩ : ∃ y, (z22.setCell ⟨z20.heap.size, 0, none⟩ (.string ⟨#[49]⟩)).setCell ⟨z20.heap.size, 1, none⟩ (.string ⟨#[49]⟩) = y := ⟨_, rfl⟩
              have b23 : Below z20.heap.size z20 z23 := by rw [← hz23]; exact (Below.setCell (p := ⟨z20.heap.size, 0, none⟩) (below_up B21.out (below_up B22.out (Below.refl _ _))) (Nat.le_refl _) _).setCell (p := ⟨z20.heap.size, 1, none⟩) (Nat.le_refl _) _
              have F23 := Lib.hid (fun W (b : Below z23.heap.size z23 W) => RatAt.below (show RatAt z23 z20.heap.size ⟨#[49]⟩ ⟨#[49]⟩ by rw [← hz23]; exact ratAt_set (F21.out _ (below_up B22.out (Below.refl _ _)))) b)
              have V23 := Lib.hid hz23
              clear hz23
              have B23 := Lib.hid b23
              have P23 := Lib.hid (below_up P20.out b23)
              clear b23
              go_wp2_with (rw [V23.out])
              refine (IS.out _ _ _).mono ?_
              rintro e z24 ⟨rfl, b24⟩
              have B24 := Lib.hid b24
              have P24 := Lib.hid (below_up P23.out b24)
              clear b24
              obtain ⟨ow250, ow251, ow252, ow253⟩ := F23.out z24 (below_up B24.out (Below.refl _ _))
              obtain ⟨z25, hz25⟩ : ∃ y, (z24.setCell ⟨z20.heap.size, 0, none⟩ (.string ⟨#[48]⟩)).setCell ⟨z20.heap.size, 1, none⟩ (.string ⟨#[49]⟩) = y := ⟨_, rfl⟩
              have b25 : Below z20.heap.size z20 z25 := by rw [← hz25]; exact (Below.setCell (p := ⟨z20.heap.size, 0, none⟩) (below_up B23.out (below_up B24.out (Below.refl _ _))) (Nat.le_refl _) _).setCell (p := ⟨z20.heap.size, 1, none⟩) (Nat.le_refl _) _
              have F25 := Lib.hid (fun W (b : Below z25.heap.size z25 W) => RatAt.below (show RatAt z25 z20.heap.size ⟨#[48]⟩ ⟨#[49]⟩ by rw [← hz25]; exact ratAt_set (F23.out _ (below_up B24.out (Below.refl _ _)))) b)
              have V25 := Lib.hid hz25
              clear hz25
              have B25 := Lib.hid b25
              have P25 := Lib.hid (below_up P20.out b25)
              clear b25
              obtain ⟨qr0, qr1, qr2, qr3⟩ := F3.out z25 (below_up B4.out (below_up B5.out (below_up B6.out (below_up B7.out (below_up B8.out (below_up B9.out (below_up B10.out (below_up B11.out (below_up B12.out (below_up B13.out (below_up B14.out (below_up B15.out (below_up B16.out (below_up B17.out (below_up B18.out (below_up B19.out (below_up B20.out (below_up B25.out (Below.refl _ _)))))))))))))))))))
              obtain ⟨qa0, qa1, qa2, qa3⟩ := F5.out z25 (below_up B6.out (below_up B7.out (below_up B8.out (below_up B9.out (below_up B10.out (below_up B11.out (below_up B12.out (below_up B13.out (below_up B14.out (below_up B15.out (below_up B16.out (below_up B17.out (below_up B18.out (below_up B19.out (below_up B20.out (below_up B25.out (Below.refl _ _)))))))))))))))))
              obtain ⟨qb0, qb1, qb2, qb3⟩ := F7.out z25 (below_up B8.out (below_up B9.out (below_up B10.out (below_up B11.out (below_up B12.out (below_up B13.out (below_up B14.out (below_up B15.out (below_up B16.out (below_up B17.out (below_up B18.out (below_up B19.out (below_up B20.out (below_up B25.out (Below.refl _ _)))))))))))))))
              obtain ⟨qagain0, qagain1, qagain2, qagain3⟩ := F13.out z25 (below_up B14.out (below_up B15.out (below_up B16.out (below_up B17.out (below_up B18.out (below_up B19.out (below_up B20.out (below_up B25.out (Below.refl _ _)))))))))
              obtain ⟨qtwice0, qtwice1, qtwice2, qtwice3⟩ := F15.out z25 (below_up B16.out (below_up B17.out (below_up B18.out (below_up B19.out (below_up B20.out (below_up B25.out (Below.refl _ _)))))))
              obtain ⟨qnn0, qnn1, qnn2, qnn3⟩ := F16.out z25 (below_up B17.out (below_up B18.out (below_up B19.out (below_up B20.out (below_up B25.out (Below.refl _ _))))))
              obtain ⟨qwidth0, qwidth1, qwidth2, qwidth3⟩ := F18.out z25 (below_up B19.out (below_up B20.out (below_up B25.out (Below.refl _ _))))
              obtain ⟨qwant0, qwant1, qwant2, qwant3⟩ := F25.out z25 (Below.refl _ _)
              go_wp2_with (rw [V25.out])
              refine (CCB.out _ (HR0.out.below P25.out)).mono ?_
              rintro e z26 ⟨rfl, b26⟩
              have B26 := Lib.hid b26
              have P26 := Lib.hid (below_up P25.out b26)
              clear b26
              go_wp2
              go_ret
              exact ⟨rfl, below_up HB0.out P26.out⟩
            · skip
              have hzb : ((n : Int) == 0) = false := by rw [beq_eq_false_iff_ne]; omega
              clear hz0
              go_wp2_with (rw [V21.out])
              refine (IS.out _ _ _).mono ?_
              rintro e z22 ⟨rfl, b22⟩
              have B22 := Lib.hid b22
              have P22 := Lib.hid (below_up P21.out b22)
              clear b22
              obtain ⟨ow230, ow231, ow232, ow233⟩ := F21.out z22 (below_up B22.out (Below.refl _ _))
              obtain ⟨z23, hz23⟩ : ∃ y, (z22.setCell ⟨z20.heap.size, 0, none⟩ (.string ⟨#[48]⟩)).setCell ⟨z20.heap.size, 1, none⟩ (.string ⟨#[49]⟩) = y := ⟨_, rfl⟩
              have b23 : Below z20.heap.size z20 z23 := by rw [← hz23]; exact (Below.setCell (p := ⟨z20.heap.size, 0, none⟩) (below_up B21.out (below_up B22.out (Below.refl _ _))) (Nat.le_refl _) _).setCell (p := ⟨z20.heap.size, 1, none⟩) (Nat.le_refl _) _
              have F23 := Lib.hid (fun W (b : Below z23.heap.size z23 W) => RatAt.below (show RatAt z23 z20.heap.size ⟨#[48]⟩ ⟨#[49]⟩ by rw [← hz23]; exact ratAt_set (F21.out _ (below_up B22.out (Below.refl _ _)))) b)
              have V23 := Lib.hid hz23
              clear hz23
              have B23 := Lib.hid b23
              have P23 := Lib.hid (below_up P20.out b23)
              clear b23
              obtain ⟨qr0, qr1, qr2, qr3⟩ := F3.out z23 (below_up B4.out (below_up B5.out (below_up B6.out (below_up B7.out (below_up B8.out (below_up B9.out (below_up B10.out (below_up B11.out (below_up B12.out (below_up B13.out (below_up B14.out (below_up B15.out (below_up B16.out (below_up B17.out (below_up B18.out (below_up B19.out (below_up B20.out (below_up B23.out (Below.refl _ _)))))))))))))))))))
              obtain ⟨qa0, qa1, qa2, qa3⟩ := F5.out z23 (below_up B6.out (below_up B7.out (below_up B8.out (below_up B9.out (below_up B10.out (below_up B11.out (below_up B12.out (below_up B13.out (below_up B14.out (below_up B15.out (below_up B16.out (below_up B17.out (below_up B18.out (below_up B19.out (below_up B20.out (below_up B23.out (Below.refl _ _)))))))))))))))))
              obtain ⟨qb0, qb1, qb2, qb3⟩ := F7.out z23 (below_up B8.out (below_up B9.out (below_up B10.out (below_up B11.out (below_up B12.out (below_up B13.out (below_up B14.out (below_up B15.out (below_up B16.out (below_up B17.out (below_up B18.out (below_up B19.out (below_up B20.out (below_up B23.out (Below.refl _ _)))))))))))))))
              obtain ⟨qagain0, qagain1, qagain2, qagain3⟩ := F13.out z23 (below_up B14.out (below_up B15.out (below_up B16.out (below_up B17.out (below_up B18.out (below_up B19.out (below_up B20.out (below_up B23.out (Below.refl _ _)))))))))
              obtain ⟨qtwice0, qtwice1, qtwice2, qtwice3⟩ := F15.out z23 (below_up B16.out (below_up B17.out (below_up B18.out (below_up B19.out (below_up B20.out (below_up B23.out (Below.refl _ _)))))))
              obtain ⟨qnn0, qnn1, qnn2, qnn3⟩ := F16.out z23 (below_up B17.out (below_up B18.out (below_up B19.out (below_up B20.out (below_up B23.out (Below.refl _ _))))))
              obtain ⟨qwidth0, qwidth1, qwidth2, qwidth3⟩ := F18.out z23 (below_up B19.out (below_up B20.out (below_up B23.out (Below.refl _ _))))
              obtain ⟨qwant0, qwant1, qwant2, qwant3⟩ := F23.out z23 (Below.refl _ _)
              go_wp2_with (rw [V23.out])
              refine (CCB.out _ (HR0.out.below P23.out)).mono ?_
              rintro e z24 ⟨rfl, b24⟩
              have B24 := Lib.hid b24
              have P24 := Lib.hid (below_up P23.out b24)
              clear b24
              go_wp2
              go_ret
              exact ⟨rfl, below_up HB0.out P24.out⟩
end Go.Proofs.YtlcibnmcannapaaGreatDoor
