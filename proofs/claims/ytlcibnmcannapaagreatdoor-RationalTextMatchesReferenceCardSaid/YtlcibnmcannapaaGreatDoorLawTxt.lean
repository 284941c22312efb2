/-
  RationalTextMatchesReference: its walk.
-/
import Derived.Test.YtlcibnmcannapaaGreatDoorTxtQ
import Derived.Test.YtlcibnmcannapaaGreatDoorSaneQ
import Derived.Test.YtlcibnmcannapaaGreatDoorLongQ
import Derived.BigRegion
namespace Go.Proofs.YtlcibnmcannapaaGreatDoor
open Go Go.Proofs Go.RowKit Go.Lib

theorem cellsAt_new {W : World} {B : Nat} {vs : List Value} {t : TypeId} (h : B = W.heap.size) : CellsAt (W.alloc (.cells vs.toArray t)) B vs := by subst h; exact cellsAt_of (heap_alloc_new _ _)
theorem conv_one (W : World) (B n : Nat) (hn : n < 256) (h : W.cell? ⟨B, 0, none⟩ = some (.int .u8 (n : Int))) : (convert 48 9 (.slice (some ⟨B, 0, none⟩) 1 1)).run Tryz.prog W = .ok (.string (byteL [n])) W := by
  have hb : Bytes W B 0 (byteL [n]) := by
    intro i hi
    have hi2 : i < 1 := by rw [byteL_size] at hi; simpa using hi
    obtain rfl : i = 0 := by omega
    rw [byteL_get [n] (by intro x hx; rw [List.mem_singleton] at hx; omega) 0 hi]
    exact h
  have := run_convert_whole (P := Tryz.prog) W 48 5 9 Tryz.underlying48 Tryz.underlying5 Tryz.underlying9 B 0 (byteL [n]) hb 1
  rw [byteL_size] at this
  exact this
theorem box_text (w : World) (xn xd : ByteArray) (x0 x1 x2 x3 : Int) : ∃ W0, (w.alloc (.cells #[.string xn, .string xd] 23)).alloc (.cells #[.int .i64 x0, .int .i64 x1, .int .i64 x2, .int .i64 x3] 24) = W0 ∧ Below w.heap.size w W0 ∧
    ∀ W, Below W0.heap.size W0 W → RatAt W w.heap.size xn xd ∧ CellsAt W (w.heap.size + 1) [.int .i64 x0, .int .i64 x1, .int .i64 x2, .int .i64 x3] := by
  obtain ⟨W1, h1, b1, f1⟩ := box_one w xn xd
  obtain ⟨W2, h2⟩ : ∃ W, W1.alloc (.cells #[.int .i64 x0, .int .i64 x1, .int .i64 x2, .int .i64 x3] 24) = W := ⟨_, rfl⟩
  have s1 : W1.heap.size = w.heap.size + 1 := by rw [← h1]; simp
  have b2 : Below W1.heap.size W1 W2 := by rw [← h2]; exact (Below.refl _ _).alloc (Nat.le_refl _) _
  have k2 := cellsAt_of (vs := [.int .i64 x0, .int .i64 x1, .int .i64 x2, .int .i64 x3]) (heap_alloc_new W1 (.cells #[.int .i64 x0, .int .i64 x1, .int .i64 x2, .int .i64 x3] 24))
  rw [h2, s1] at k2
  exact ⟨W2, by rw [h1, h2], below_up b1 b2, fun W hb => ⟨f1 W (below_up b2 hb), k2.below hb⟩⟩

set_option maxRecDepth 100000 in
set_option maxHeartbeats 16000000 in
theorem rationalTextMatches_walk (xn xd : ByteArray) (x0 x1 x2 x3 at' cc : Int) (raw : ByteArray) (hxn : xn.size ≤ maxLen) (hxd : xd.size ≤ maxLen) (a0 : -9223372036854775808 ≤ x0) (c0 : x0 ≤ 9223372036854775807) (a1 : -9223372036854775808 ≤ x1) (c1 : x1 ≤ 9223372036854775807) (a2 : -9223372036854775808 ≤ x2) (c2 : x2 ≤ 9223372036854775807) (a3 : -9223372036854775808 ≤ x3) (c3 : x3 ≤ 9223372036854775807) (d0 : -9223372036854775808 ≤ at') (d1 : at' ≤ 9223372036854775807) (e0 : 0 ≤ cc) (e1 : cc ≤ 255) (hraw : raw.size ≤ maxLen) (w : World) (hR : Ready w) :
    Calls Tryz.prog 4 #[.agg #[.string xn, .string xd], .agg #[.int .i64 x0, .int .i64 x1, .int .i64 x2, .int .i64 x3], .int .i64 at', .int .u8 cc, .string raw] w fun e w' => e = .returned (.bool true) ∧ Below w.heap.size w w' := by
  have hlong := fun W => longR_any x0 x1 x2 x3 a0 c0 a1 c1 a2 c2 a3 c3 W
  have hcut := fun W => cutL_any xn xd hxn hxd W
  have hpick := fun (k : Int) (h0 : 0 < k) (h1 : k ≤ 2147483647) W => pickL_any at' k d0 d1 h0 h1 W
  have hu1 := cutT_size xn; have hu2 := cutT_size xd
  unfold maxLen at hraw
  have LONG := Lib.hid hlong; have CUT := Lib.hid hcut; have PICK := Lib.hid hpick; have HRAW := Lib.hid hraw; have HCC := Lib.hid (And.intro e0 e1)
  have SANE := Lib.hid sane_any
  obtain ⟨W0, hW0, b0, hcc⟩ := box_text w xn xd x0 x1 x2 x3
  have HW := Lib.hid hW0; have HX := Lib.hid (fun W b => (hcc W b).1); have HC := Lib.hid (fun W b => (hcc W b).2); have HB0 := Lib.hid b0
  have HR0 := Lib.hid (hR.below b0)
  have U1 := Lib.hid hu1; have U2 := Lib.hid hu2
  clear hlong hcut hpick hraw hu1 hu2 hxn hxd a0 c0 a1 c1 a2 c2 a3 c3 d0 d1 e0 e1 hW0 hcc b0 hR
  generalize cutT xn = un at *
  generalize cutT xd = ud at *
  have P0 := Lib.hid (Below.refl W0.heap.size W0)
  go_enter Tryz.func4, Tryz.ntmps4
  go_wp2_with (rw [HW.out])
  refine (SANE.out _ (HR0.out.below P0.out)).mono ?_
  rintro e z1 ⟨rfl, b1⟩
  have B1 := Lib.hid b1
  have P1 := Lib.hid (below_up P0.out b1)
  clear b1
  have G := HC.out _ P1.out
  have m0 := (G 0 (by simp)).1; have m1 := (G 1 (by simp)).1; have m2 := (G 2 (by simp)).1; have m3 := (G 3 (by simp)).1
  simp only [List.getElem_cons_zero, List.getElem_cons_succ] at m0 m1 m2 m3
  clear G
  go_wp2_with fail
  refine (LONG.out _).mono ?_
  rintro e z2 ⟨q, hq, rfl, b2⟩
  have B2 := Lib.hid b2
  have P2 := Lib.hid (below_up P1.out b2)
  clear b2
  clear m0 m1 m2 m3
  have hf := hq.fits
  have s1 := nT_size hf
  have s2 := dT_size hf
  have vq := (validQ_text hf).1
  generalize nT q = N at *
  generalize dT q = D at *
  have S1 := Lib.hid s1; have S2 := Lib.hid s2; have VQ := Lib.hid vq
  clear hq hf s1 s2 vq
  obtain ⟨z3, hz3, b3, f3⟩ := box_one z2 N D
  have V3 := Lib.hid hz3; have F3 := Lib.hid f3
  clear hz3 f3
  have B3 := Lib.hid b3
  have P3 := Lib.hid (below_up P2.out b3)
  clear b3
  go_upto_region 3 with (rw [V3.out])
  go_cut [32, 33, 34] from 29 to 34 (fun sa sb sc wx => sb = .int .i64 2 ∧ sc = .int .i64 0 ∧ ∃ A : Nat, sa = .slice (some ⟨A, 0, none⟩) 2 2 ∧ Hid (CellsAt wx A [.string un, .string ud, .string N, .string D]) ∧ Hid (Below z3.heap.size z3 wx))
  case first =>
    have K := Lib.hid (show ∀ W, Below z3.heap.size z3 W → ((W.cell? ⟨w.heap.size, 0, none⟩ = some (.string xn) ∧ W.cell? ⟨w.heap.size, 1, none⟩ = some (.string xd)) ∧ (W.cell? ⟨z2.heap.size, 0, none⟩ = some (.string N) ∧ W.cell? ⟨z2.heap.size, 1, none⟩ = some (.string D))) from fun W b => ⟨⟨(HX.out W (below_up B1.out (below_up B2.out (below_up B3.out b)))).1, (HX.out W (below_up B1.out (below_up B2.out (below_up B3.out b)))).2.1⟩, (F3.out W b).1, (F3.out W b).2.1⟩)
    have g := Below.refl z3.heap.size z3
    go_region_held3 (fun W => (W.cell? ⟨w.heap.size, 0, none⟩ = some (.string xn) ∧ W.cell? ⟨w.heap.size, 1, none⟩ = some (.string xd)) ∧ (W.cell? ⟨z2.heap.size, 0, none⟩ = some (.string N) ∧ W.cell? ⟨z2.heap.size, 1, none⟩ = some (.string D))) (first | exact K.out _ g | exact K.out _ ⟨g.os, g.tape, g.output, g.size, g.block⟩ | exact K.out _ (g.alloc g.size _)) (first | (go_at_call 12; (with_reducible refine (CUT.out _).mono ?_); (rintro e y ⟨rfl, k'⟩); (have g : Below z3.heap.size z3 y := below_up (by first | exact g | exact ⟨g.os, g.tape, g.output, g.size, g.block⟩) k')))
    all_goals (
      have g2 : Below z3.heap.size z3 _ := (show Below z3.heap.size z3 _ by first | exact g | exact ⟨g.os, g.tape, g.output, g.size, g.block⟩)
      go_wp2_with fail
      go_meet
      first | exact ⟨rfl, rfl, rfl, _, rfl, Lib.hid (cellsAt_of (heap_alloc_new _ _)), Lib.hid (g2.alloc g2.size _)⟩ | exact ⟨rfl, rfl, _, rfl, Lib.hid (cellsAt_of (heap_alloc_new _ _)), Lib.hid (g2.alloc g2.size _)⟩)
  case rest =>
    obtain ⟨rfl, rfl, AS, rfl, hsl, hbx⟩ := hcut
    generalize wc = z4 at *
    have B4 := hbx
    have P4 := Lib.hid (below_up P3.out hbx.out)
    have FS := Lib.hid (fun W (b : Below z4.heap.size z4 W) => CellsAt.below hsl.out b)
    clear hbx hsl
    go_wp2_with fail
    go_loopw [34] (fun i wr => ∃ k : Nat, k ≤ 2 ∧ i = .int .i64 k ∧ Hid (Below z4.heap.size z4 wr)) (fun i _ => 2 - (RowKit.intOf i).toNat)
    case atStart => exact ⟨0, by omega, rfl, Lib.hid (Below.refl _ _)⟩
    case round =>
      obtain ⟨k, hk, rfl, hbw⟩ := hrel
      have hk5 : k = 0 ∨ k = 1 ∨ k = 2 := by omega
      clear hk
      rcases hk5 with rfl | rfl | rfl
      · skip
        generalize wr = z5 at *
        have B5 := hbw
        have P5 := Lib.hid (below_up P4.out hbw.out)
        clear hbw
        have hs1 : un.size ≤ 1000 := Nat.le_trans U1.out (by decide)
        have hs2 : ud.size ≤ 1000 := Nat.le_trans U2.out (by decide)
        have hps := printB_size un ud
        have cp := fun W (h : Ready W) => print_q un ud (by omega) (by omega) W h
        have cr := fun W => printR4_any un ud (by omega) (by omega) W
        have cv := fun W (h : Ready W) => valid_q un ud (by omega) (by omega) W h
        have ca := fun W (h : Ready W) => parse_q (printB un ud) (by omega) W h
        cases hv : validQ un ud with
        | false =>
          have ht := text_no hv
          rw [ht] at cp cr ca
          rw [parse_empty.2.2] at ca
          generalize parN ⟨#[]⟩ = TN at *
          generalize parD ⟨#[]⟩ = TD at *
          rw [hv] at cv
          clear ht hps hs1 hs2 hv
          have CP := Lib.hid cp; have CR := Lib.hid cr; have CV := Lib.hid cv; have CA := Lib.hid ca
          clear cp cr cv ca
          have G := FS.out z5 (below_up B5.out (Below.refl _ _))
          have es0 := (G 0 (by simp)).1; have es1 := (G 1 (by simp)).1
          simp only [List.getElem_cons_zero, List.getElem_cons_succ] at es0 es1
          clear G
          obtain ⟨z6, hz6, b6, f6⟩ := box_one z5 un ud
          have V6 := Lib.hid hz6; have F6 := Lib.hid f6
          clear hz6 f6
          have B6 := Lib.hid b6
          have P6 := Lib.hid (below_up P5.out b6)
          clear b6
          obtain ⟨qr0, qr1, qr2, qr3⟩ := F6.out z6 (Below.refl _ _)
          go_wp2_with (rw [V6.out])
          refine (CP.out _ (HR0.out.below P6.out)).mono ?_
          rintro e z7 ⟨rfl, b7⟩
          have B7 := Lib.hid b7
          have P7 := Lib.hid (below_up P6.out b7)
          clear b7
          clear es0 es1
          clear qr0 qr1 qr2 qr3
          go_wp2_with fail
          refine (CA.out _ (HR0.out.below P7.out)).mono ?_
          rintro e z8 ⟨rfl, b8⟩
          have B8 := Lib.hid b8
          have P8 := Lib.hid (below_up P7.out b8)
          clear b8
          obtain ⟨z9, hz9, b9, f9⟩ := box_one z8 TN TD
          have V9 := Lib.hid hz9; have F9 := Lib.hid f9
          clear hz9 f9
          have B9 := Lib.hid b9
          have P9 := Lib.hid (below_up P8.out b9)
          clear b9
          obtain ⟨qr0, qr1, qr2, qr3⟩ := F6.out z9 (below_up B7.out (below_up B8.out (below_up B9.out (Below.refl _ _))))
          go_wp2_with (rw [V9.out])
          refine (CR.out _).mono ?_
          rintro e z10 ⟨rfl, b10⟩
          have B10 := Lib.hid b10
          have P10 := Lib.hid (below_up P9.out b10)
          clear b10
          clear qr0 qr1 qr2 qr3
          obtain ⟨qr0, qr1, qr2, qr3⟩ := F6.out z10 (below_up B7.out (below_up B8.out (below_up B9.out (below_up B10.out (Below.refl _ _)))))
          go_wp2_with fail
          refine (CV.out _ (HR0.out.below P10.out)).mono ?_
          rintro e z11 ⟨rfl, b11⟩
          have B11 := Lib.hid b11
          have P11 := Lib.hid (below_up P10.out b11)
          clear b11
          clear qr0 qr1 qr2 qr3
          obtain ⟨qr0, qr1, qr2, qr3⟩ := F6.out z11 (below_up B7.out (below_up B8.out (below_up B9.out (below_up B10.out (below_up B11.out (Below.refl _ _))))))
          obtain ⟨qt0, qt1, qt2, qt3⟩ := F9.out z11 (below_up B10.out (below_up B11.out (Below.refl _ _)))
          go_wp2_with fail
          refine (CV.out _ (HR0.out.below P11.out)).mono ?_
          rintro e z12 ⟨rfl, b12⟩
          have B12 := Lib.hid b12
          have P12 := Lib.hid (below_up P11.out b12)
          clear b12
          clear qr0 qr1 qr2 qr3 qt0 qt1 qt2 qt3
          go_wp2_with fail
          go_roundw
          case rel => exact ⟨1, by omega, rfl, Lib.hid (below_up B5.out (below_up B6.out (below_up B7.out (below_up B8.out (below_up B9.out (below_up B10.out (below_up B11.out (below_up B12.out (Below.refl _ _)))))))))⟩
          case measure => simp [RowKit.intOf]
        | true =>
          have ht := text_yes hv
          have hl := list_ne (printB_pos hv)
          have hl1 := hl.1; have hl2 := hl.2
          clear hl
          rw [ht.1, ht.2.1, ht.2.2] at ca
          rw [hv] at cv
          clear ht hps hs1 hs2 hv
          generalize printB un ud = PT at *
          have CP := Lib.hid cp; have CR := Lib.hid cr; have CV := Lib.hid cv; have CA := Lib.hid ca
          clear cp cr cv ca
          have HL1 := Lib.hid hl1; have HL2 := Lib.hid hl2
          clear hl1 hl2
          have G := FS.out z5 (below_up B5.out (Below.refl _ _))
          have es0 := (G 0 (by simp)).1; have es1 := (G 1 (by simp)).1
          simp only [List.getElem_cons_zero, List.getElem_cons_succ] at es0 es1
          clear G
          obtain ⟨z6, hz6, b6, f6⟩ := box_one z5 un ud
          have V6 := Lib.hid hz6; have F6 := Lib.hid f6
          clear hz6 f6
          have B6 := Lib.hid b6
          have P6 := Lib.hid (below_up P5.out b6)
          clear b6
          obtain ⟨qr0, qr1, qr2, qr3⟩ := F6.out z6 (Below.refl _ _)
          go_wp2_with (rw [V6.out])
          refine (CP.out _ (HR0.out.below P6.out)).mono ?_
          rintro e z7 ⟨rfl, b7⟩
          have B7 := Lib.hid b7
          have P7 := Lib.hid (below_up P6.out b7)
          clear b7
          clear es0 es1
          clear qr0 qr1 qr2 qr3
          go_wp2_with fail
          refine (CA.out _ (HR0.out.below P7.out)).mono ?_
          rintro e z8 ⟨rfl, b8⟩
          have B8 := Lib.hid b8
          have P8 := Lib.hid (below_up P7.out b8)
          clear b8
          obtain ⟨z9, hz9, b9, f9⟩ := box_one z8 un ud
          have V9 := Lib.hid hz9; have F9 := Lib.hid f9
          clear hz9 f9
          have B9 := Lib.hid b9
          have P9 := Lib.hid (below_up P8.out b9)
          clear b9
          obtain ⟨qr0, qr1, qr2, qr3⟩ := F6.out z9 (below_up B7.out (below_up B8.out (below_up B9.out (Below.refl _ _))))
          go_wp2_with (rw [V9.out])
          refine (CR.out _).mono ?_
          rintro e z10 ⟨rfl, b10⟩
          have B10 := Lib.hid b10
          have P10 := Lib.hid (below_up P9.out b10)
          clear b10
          clear qr0 qr1 qr2 qr3
          obtain ⟨qr0, qr1, qr2, qr3⟩ := F6.out z10 (below_up B7.out (below_up B8.out (below_up B9.out (below_up B10.out (Below.refl _ _)))))
          go_wp2_with fail
          refine (CV.out _ (HR0.out.below P10.out)).mono ?_
          rintro e z11 ⟨rfl, b11⟩
          have B11 := Lib.hid b11
          have P11 := Lib.hid (below_up P10.out b11)
          clear b11
          clear qr0 qr1 qr2 qr3
          obtain ⟨qr0, qr1, qr2, qr3⟩ := F6.out z11 (below_up B7.out (below_up B8.out (below_up B9.out (below_up B10.out (below_up B11.out (Below.refl _ _))))))
          obtain ⟨qt0, qt1, qt2, qt3⟩ := F9.out z11 (below_up B10.out (below_up B11.out (Below.refl _ _)))
          have hl1 := HL1.out; have hl2 := HL2.out
          go_wp2_with fail
          refine (CV.out _ (HR0.out.below P11.out)).mono ?_
          rintro e z12 ⟨rfl, b12⟩
          have B12 := Lib.hid b12
          have P12 := Lib.hid (below_up P11.out b12)
          clear b12
          clear qr0 qr1 qr2 qr3 qt0 qt1 qt2 qt3
          go_wp2_with fail
          go_roundw
          case rel => exact ⟨1, by omega, rfl, Lib.hid (below_up B5.out (below_up B6.out (below_up B7.out (below_up B8.out (below_up B9.out (below_up B10.out (below_up B11.out (below_up B12.out (Below.refl _ _)))))))))⟩
          case measure => simp [RowKit.intOf]
      · skip
        generalize wr = z5 at *
        have B5 := hbw
        have P5 := Lib.hid (below_up P4.out hbw.out)
        clear hbw
        have hs1 : N.size ≤ 1000 := S1.out
        have hs2 : D.size ≤ 1000 := S2.out
        have hps := printB_size N D
        have cp := fun W (h : Ready W) => print_q N D (by omega) (by omega) W h
        have cr := fun W => printR4_any N D (by omega) (by omega) W
        have cv := fun W (h : Ready W) => valid_q N D (by omega) (by omega) W h
        have ca := fun W (h : Ready W) => parse_q (printB N D) (by omega) W h
        have hv : validQ N D = true := VQ.out
        have ht := text_yes hv
        have hl := list_ne (printB_pos hv)
        have hl1 := hl.1; have hl2 := hl.2
        clear hl
        rw [ht.1, ht.2.1, ht.2.2] at ca
        rw [hv] at cv
        clear ht hps hs1 hs2 hv
        generalize printB N D = PT at *
        have CP := Lib.hid cp; have CR := Lib.hid cr; have CV := Lib.hid cv; have CA := Lib.hid ca
        clear cp cr cv ca
        have HL1 := Lib.hid hl1; have HL2 := Lib.hid hl2
        clear hl1 hl2
        have G := FS.out z5 (below_up B5.out (Below.refl _ _))
        have es0 := (G 2 (by simp)).1; have es1 := (G 3 (by simp)).1
        simp only [List.getElem_cons_zero, List.getElem_cons_succ] at es0 es1
        clear G
        obtain ⟨z6, hz6, b6, f6⟩ := box_one z5 N D
        have V6 := Lib.hid hz6; have F6 := Lib.hid f6
        clear hz6 f6
        have B6 := Lib.hid b6
        have P6 := Lib.hid (below_up P5.out b6)
        clear b6
        obtain ⟨qr0, qr1, qr2, qr3⟩ := F6.out z6 (Below.refl _ _)
        go_wp2_with (rw [V6.out])
        refine (CP.out _ (HR0.out.below P6.out)).mono ?_
        rintro e z7 ⟨rfl, b7⟩
        have B7 := Lib.hid b7
        have P7 := Lib.hid (below_up P6.out b7)
        clear b7
        clear es0 es1
        clear qr0 qr1 qr2 qr3
        go_wp2_with fail
        refine (CA.out _ (HR0.out.below P7.out)).mono ?_
        rintro e z8 ⟨rfl, b8⟩
        have B8 := Lib.hid b8
        have P8 := Lib.hid (below_up P7.out b8)
        clear b8
        obtain ⟨z9, hz9, b9, f9⟩ := box_one z8 N D
        have V9 := Lib.hid hz9; have F9 := Lib.hid f9
        clear hz9 f9
        have B9 := Lib.hid b9
        have P9 := Lib.hid (below_up P8.out b9)
        clear b9
        obtain ⟨qr0, qr1, qr2, qr3⟩ := F6.out z9 (below_up B7.out (below_up B8.out (below_up B9.out (Below.refl _ _))))
        go_wp2_with (rw [V9.out])
        refine (CR.out _).mono ?_
        rintro e z10 ⟨rfl, b10⟩
        have B10 := Lib.hid b10
        have P10 := Lib.hid (below_up P9.out b10)
        clear b10
        clear qr0 qr1 qr2 qr3
        obtain ⟨qr0, qr1, qr2, qr3⟩ := F6.out z10 (below_up B7.out (below_up B8.out (below_up B9.out (below_up B10.out (Below.refl _ _)))))
        go_wp2_with fail
        refine (CV.out _ (HR0.out.below P10.out)).mono ?_
        rintro e z11 ⟨rfl, b11⟩
        have B11 := Lib.hid b11
        have P11 := Lib.hid (below_up P10.out b11)
        clear b11
        clear qr0 qr1 qr2 qr3
        obtain ⟨qr0, qr1, qr2, qr3⟩ := F6.out z11 (below_up B7.out (below_up B8.out (below_up B9.out (below_up B10.out (below_up B11.out (Below.refl _ _))))))
        obtain ⟨qt0, qt1, qt2, qt3⟩ := F9.out z11 (below_up B10.out (below_up B11.out (Below.refl _ _)))
        have hl1 := HL1.out; have hl2 := HL2.out
        go_wp2_with fail
        refine (CV.out _ (HR0.out.below P11.out)).mono ?_
        rintro e z12 ⟨rfl, b12⟩
        have B12 := Lib.hid b12
        have P12 := Lib.hid (below_up P11.out b12)
        clear b12
        clear qr0 qr1 qr2 qr3 qt0 qt1 qt2 qt3
        go_wp2_with fail
        go_roundw
        case rel => exact ⟨2, by omega, rfl, Lib.hid (below_up B5.out (below_up B6.out (below_up B7.out (below_up B8.out (below_up B9.out (below_up B10.out (below_up B11.out (below_up B12.out (Below.refl _ _)))))))))⟩
        case measure => simp [RowKit.intOf]
      · skip
        generalize wr = z5 at *
        have B5 := hbw
        have P5 := Lib.hid (below_up P4.out hbw.out)
        clear hbw
        have hs1 := S1.out; have hs2 := S2.out
        have hps := printB_size N D
        have hpp := printB_pos VQ.out
        have cr := fun W => printR4_any N D (by omega) (by omega) W
        have hl := list_ne hpp
        have hl1 := hl.1; have hl2 := hl.2
        clear hl
        generalize printB N D = PT at *
        have pk := fun W => PICK.out (PT.size : Int) (by omega) (by omega) W
        have pr := pickI_range at' (n := (PT.size : Int)) (by omega)
        obtain ⟨kk, hkk⟩ : ∃ n : Nat, pickI at' PT.size = (n : Int) := ⟨(pickI at' PT.size).toNat, by omega⟩
        rw [hkk] at pk pr
        clear hkk
        have CR := Lib.hid cr; have PK := Lib.hid pk; have HPS := Lib.hid (show PT.size ≤ 2001 by omega)
        have HKK := Lib.hid (show kk < PT.size by omega)
        clear cr pk hs1 hs2 hps hpp pr
        have HL1 := Lib.hid hl1; have HL2 := Lib.hid hl2
        clear hl1 hl2
        obtain ⟨qmade0, qmade1, qmade2, qmade3⟩ := F3.out z5 (below_up B4.out (below_up B5.out (Below.refl _ _)))
        go_wp2_with fail
        refine (CR.out _).mono ?_
        rintro e z6 ⟨rfl, b6⟩
        have B6 := Lib.hid b6
        have P6 := Lib.hid (below_up P5.out b6)
        clear b6
        clear qmade0 qmade1 qmade2 qmade3
        have hl1 := HL1.out; have hl2 := HL2.out
        have hps := HPS.out
        go_wp2_with fail
        refine (PK.out _).mono ?_
        rintro e zq106 ⟨rfl, rfl⟩
        clear hl1 hl2
        go_upto_region 15 with fail
        go_cut [94, 95, 96] from 77 to 96 (fun sa sb sc wx => sb = .int .i64 2 ∧ sc = .int .i64 0 ∧ ∃ (A : Nat) (T0 T1 : ByteArray), sa = .slice (some ⟨A, 0, none⟩) 2 2 ∧ Hid (T0.size ≤ 5000 ∧ T1.size ≤ 5000) ∧ Hid (CellsAt wx A [.string T0, .string T1]) ∧ Hid (Below z6.heap.size z6 wx))
        case first =>
          have hkk := HKK.out
          have hrw := HRAW.out
          have hcc := HCC.out
          have hps := HPS.out
          obtain ⟨cn, rfl⟩ : ∃ cn : Nat, cc = cn := ⟨cc.toNat, by omega⟩
          have hcv := conv_one ((z6.alloc (.cells #[.int .u8 (cn : Int)] 5)).drew) z6.heap.size cn (by omega) (((cellsAt_of (vs := [.int .u8 (cn : Int)]) (heap_alloc_new z6 (.cells #[.int .u8 (cn : Int)] 5))).drew 0 (by simp)).1)
          have h1 : 0 ≤ min (raw.size : Int) 420 := by omega
          have h2 : min (raw.size : Int) 420 ≤ raw.size := by omega
          have h3 : (kk : Int) ≤ PT.size := by omega
          have h4 : (kk : Int) + 1 ≤ PT.size := by omega
          have hw1 : IntKind.i64.wrap ((kk : Int) + 1) = (kk : Int) + 1 := IntWalk.i64_in _ (by omega)
          have hbc : (byteL [cn]).size = 1 := by rw [byteL_size]; rfl
          generalize byteL [cn] = BC at *
          have HT := Lib.hid (show (raw.extract 0 (min (raw.size : Int) 420).toNat).size ≤ 5000 ∧ (PT.extract 0 kk ++ BC ++ PT.extract (kk + 1) PT.size).size ≤ 5000 by
            simp only [ByteArray.size_append, ByteArray.size_extract]
            exact ⟨by omega, by omega⟩)
          have h5 : ¬ 9223372036854775807 < min kk PT.size + 1 := by omega
          have h6 : ¬ 9223372036854775807 < min kk PT.size + 1 + (PT.size - (kk + 1)) := by omega
          go_region
          all_goals (
            go_wp2_with fail
            go_meet
            exact ⟨rfl, rfl, _, _, _, rfl, HT, Lib.hid ((cellsAt_new (by simp)).drew), Lib.hid ((((Below.refl _ _).alloc (Nat.le_refl _) _).alloc (by simp) _).drew)⟩)
        case rest =>
          obtain ⟨rfl, rfl, A2, T0, T1, rfl, HTS, hsl, hbx⟩ := hcut
          generalize wc = z7 at *
          have B7 := hbx
          have P7 := Lib.hid (below_up P6.out hbx.out)
          have FT := Lib.hid (fun W (b : Below z7.heap.size z7 W) => CellsAt.below hsl.out b)
          clear hbx hsl hps
          go_wp2_with fail
          go_loopw [96] (fun i wr => ∃ k : Nat, k ≤ 2 ∧ i = .int .i64 k ∧ Hid (Below z7.heap.size z7 wr)) (fun i _ => 2 - (RowKit.intOf i).toNat)
          case atStart => exact ⟨0, by omega, rfl, Lib.hid (Below.refl _ _)⟩
          case round =>
            obtain ⟨k, hk, rfl, hbw⟩ := hrel
            have hk5 : k = 0 ∨ k = 1 ∨ k = 2 := by omega
            clear hk
            rcases hk5 with rfl | rfl | rfl
            · skip
              generalize wr = z8 at *
              have B8 := hbw
              have P8 := Lib.hid (below_up P7.out hbw.out)
              clear hbw
              have hts := HTS.out
              have hpz := par_size T0
              have ca := fun W (h : Ready W) => parse_q T0 (by omega) W h
              have cb := fun W => parseR4_any T0 (by omega) W
              have cp := fun W (h : Ready W) => print_q (parN T0) (parD T0) (by omega) (by omega) W h
              have hpy := fun h => par_yes (s := T0) h
              have hpn := fun h => par_no (s := T0) h
              generalize parN T0 = QN at *
              generalize parD T0 = QD at *
              generalize parE T0 = QE at *
              have CA := Lib.hid ca; have CB := Lib.hid cb; have CP := Lib.hid cp; have HPY := Lib.hid hpy; have HPN := Lib.hid hpn
              clear ca cb cp hpy hpn hts hpz
              have G := FT.out z8 (below_up B8.out (Below.refl _ _))
              have es0 := (G 0 (by simp)).1
              simp only [List.getElem_cons_zero] at es0
              clear G
              go_wp2_with fail
              refine (CA.out _ (HR0.out.below P8.out)).mono ?_
              rintro e z9 ⟨rfl, b9⟩
              have B9 := Lib.hid b9
              have P9 := Lib.hid (below_up P8.out b9)
              clear b9
              obtain ⟨z10, hz10, b10, f10⟩ := box_one z9 QN QD
              have V10 := Lib.hid hz10; have F10 := Lib.hid f10
              clear hz10 f10
              have B10 := Lib.hid b10
              have P10 := Lib.hid (below_up P9.out b10)
              clear b10
              clear es0
              go_wp2_with (rw [V10.out])
              refine (CB.out _).mono ?_
              rintro e z11 ⟨rfl, b11⟩
              have B11 := Lib.hid b11
              have P11 := Lib.hid (below_up P10.out b11)
              clear b11
              obtain ⟨z12, hz12, b12, f12⟩ := box_one z11 QN QD
              have V12 := Lib.hid hz12; have F12 := Lib.hid f12
              clear hz12 f12
              have B12 := Lib.hid b12
              have P12 := Lib.hid (below_up P11.out b12)
              clear b12
              go_upto_region 20 with (rw [V12.out])
              go_cut [127] from 110 to 127 (fun s127 wx => s127 = .bool false ∧ Hid (Below z12.heap.size z12 wx))
              case first =>
                obtain ⟨qu0, qu1, qu2, qu3⟩ := F10.out z12 (below_up B11.out (below_up B12.out (Below.refl _ _)))
                obtain ⟨qv0, qv1, qv2, qv3⟩ := F12.out z12 (Below.refl _ _)
                cases hb : parseB T0 with
                | false =>
                  have he := HPN.out hb
                  subst he
                  clear hb
                  go_wp2_with fail
                  go_meet
                  exact ⟨rfl, Lib.hid (Below.refl _ _)⟩
                | true =>
                  obtain ⟨he, hp⟩ := HPY.out hb
                  subst he
                  have cp := CP.out
                  rw [hp] at cp
                  have CP2 := Lib.hid cp
                  clear hb hp cp
                  go_wp2_with fail
                  refine (CP2.out _ (HR0.out.below P12.out)).mono ?_
                  rintro e z13 ⟨rfl, b13⟩
                  have B13 := Lib.hid b13
                  have P13 := Lib.hid (below_up P12.out b13)
                  clear b13
                  go_wp2_with fail
                  go_meet
                  exact ⟨rfl, B13⟩
              case rest =>
                obtain ⟨rfl, hbx⟩ := hcut
                generalize wc = z13 at *
                have B13 := hbx
                have P13 := Lib.hid (below_up P12.out hbx.out)
                clear hbx
                go_wp2_with fail
                go_roundw
                case rel => exact ⟨1, by omega, rfl, Lib.hid (below_up B8.out (below_up B9.out (below_up B10.out (below_up B11.out (below_up B12.out (below_up B13.out (Below.refl _ _)))))))⟩
                case measure => simp [RowKit.intOf]
            · skip
              generalize wr = z8 at *
              have B8 := hbw
              have P8 := Lib.hid (below_up P7.out hbw.out)
              clear hbw
              have hts := HTS.out
              have hpz := par_size T1
              have ca := fun W (h : Ready W) => parse_q T1 (by omega) W h
              have cb := fun W => parseR4_any T1 (by omega) W
              have cp := fun W (h : Ready W) => print_q (parN T1) (parD T1) (by omega) (by omega) W h
              have hpy := fun h => par_yes (s := T1) h
              have hpn := fun h => par_no (s := T1) h
              generalize parN T1 = QN at *
              generalize parD T1 = QD at *
              generalize parE T1 = QE at *
              have CA := Lib.hid ca; have CB := Lib.hid cb; have CP := Lib.hid cp; have HPY := Lib.hid hpy; have HPN := Lib.hid hpn
              clear ca cb cp hpy hpn hts hpz
              have G := FT.out z8 (below_up B8.out (Below.refl _ _))
              have es0 := (G 1 (by simp)).1
              simp only [List.getElem_cons_zero, List.getElem_cons_succ] at es0
              clear G
              go_wp2_with fail
              refine (CA.out _ (HR0.out.below P8.out)).mono ?_
              rintro e z9 ⟨rfl, b9⟩
              have B9 := Lib.hid b9
              have P9 := Lib.hid (below_up P8.out b9)
              clear b9
              obtain ⟨z10, hz10, b10, f10⟩ := box_one z9 QN QD
              have V10 := Lib.hid hz10; have F10 := Lib.hid f10
              clear hz10 f10
              have B10 := Lib.hid b10
              have P10 := Lib.hid (below_up P9.out b10)
              clear b10
              clear es0
              go_wp2_with (rw [V10.out])
              refine (CB.out _).mono ?_
              rintro e z11 ⟨rfl, b11⟩
              have B11 := Lib.hid b11
              have P11 := Lib.hid (below_up P10.out b11)
              clear b11
              obtain ⟨z12, hz12, b12, f12⟩ := box_one z11 QN QD
              have V12 := Lib.hid hz12; have F12 := Lib.hid f12
              clear hz12 f12
              have B12 := Lib.hid b12
              have P12 := Lib.hid (below_up P11.out b12)
              clear b12
              go_upto_region 20 with (rw [V12.out])
              go_cut [127] from 110 to 127 (fun s127 wx => s127 = .bool false ∧ Hid (Below z12.heap.size z12 wx))
              case first =>
                obtain ⟨qu0, qu1, qu2, qu3⟩ := F10.out z12 (below_up B11.out (below_up B12.out (Below.refl _ _)))
                obtain ⟨qv0, qv1, qv2, qv3⟩ := F12.out z12 (Below.refl _ _)
                cases hb : parseB T1 with
                | false =>
                  have he := HPN.out hb
                  subst he
                  clear hb
                  go_wp2_with fail
                  go_meet
                  exact ⟨rfl, Lib.hid (Below.refl _ _)⟩
                | true =>
                  obtain ⟨he, hp⟩ := HPY.out hb
                  subst he
                  have cp := CP.out
                  rw [hp] at cp
                  have CP2 := Lib.hid cp
                  clear hb hp cp
                  go_wp2_with fail
                  refine (CP2.out _ (HR0.out.below P12.out)).mono ?_
                  rintro e z13 ⟨rfl, b13⟩
                  have B13 := Lib.hid b13
                  have P13 := Lib.hid (below_up P12.out b13)
                  clear b13
                  go_wp2_with fail
                  go_meet
                  exact ⟨rfl, B13⟩
              case rest =>
                obtain ⟨rfl, hbx⟩ := hcut
                generalize wc = z13 at *
                have B13 := hbx
                have P13 := Lib.hid (below_up P12.out hbx.out)
                clear hbx
                go_wp2_with fail
                go_roundw
                case rel => exact ⟨2, by omega, rfl, Lib.hid (below_up B8.out (below_up B9.out (below_up B10.out (below_up B11.out (below_up B12.out (below_up B13.out (Below.refl _ _)))))))⟩
                case measure => simp [RowKit.intOf]
            · skip
              generalize wr = z8 at *
              have B8 := hbw
              have P8 := Lib.hid (below_up P7.out hbw.out)
              clear hbw
              go_wp2
              go_ret
              exact ⟨rfl, below_up HB0.out P8.out⟩
end Go.Proofs.YtlcibnmcannapaaGreatDoor
