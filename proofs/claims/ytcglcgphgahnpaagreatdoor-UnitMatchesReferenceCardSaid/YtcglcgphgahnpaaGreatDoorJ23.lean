/-
  The contracts of package unit: Encode.
-/
import Derived.Test.YtcglcgphgahnpaaGreatDoorJ18
import Derived.Test.YtcglcgphgahnpaaGreatDoorJ22
set_option maxRecDepth 100000
set_option maxHeartbeats 16000000
namespace Go.Proofs.YtcglcgphgahnpaaGreatDoor
open Go Go.Proofs Go.RowKit Go.Lib
theorem encS_nine {x : Int} (h : InE x) : (W1.encS x).size ≤ 9 := W1.encS_size_le x (by unfold InE at h; omega) (by unfold InE at h; omega)
theorem putI_u (x : Int) (h : InE x) (w : World) : Calls Tryz.prog 62 #[.int .i64 x] w fun e w' => e = .returned (.tuple #[.string (W1.encS x), .int .i64 0]) ∧ Below w.heap.size w w' :=
 W1.putInt_yes x (by unfold InE at h; omega) (by unfold InE at h; omega) w
def encT (n d : ByteArray) (t b m c : Int) : ByteArray := if okU n d t b m c then encU n d t b m c else ⟨#[]⟩
theorem encode_u (n d : ByteArray) (t b m c : Int) (hn : n.size ≤ 1099511627776) (hd : d.size ≤ 1099511627776) (w : World) (hR : Ready w) : Calls Tryz.prog 27 #[.agg #[.string n, .string d, .int .i64 t, .int .i64 b, .int .i64 m, .int .i64 c]] w fun e w' => e = .returned (.tuple #[.string (encT n d t b m c), .int .i64 (eU (okU n d t b m c))]) ∧ Below w.heap.size w w' := by
 obtain ⟨W0, hW0, b0, s0, hcc⟩ := lay1 w (.string n) [.string d, .int .i64 t, .int .i64 b, .int .i64 m, .int .i64 c] 27
 have cv := fun W h => valid_u n d t b m c hn hd W h
 have HW := hid hW0; have B0 := hid b0; have HC := hid hcc; have HR := hid (hR.below b0)
 clear hW0 b0 hcc s0 hR
 unfold encT
 cases hv : okU n d t b m c with
 | false =>
  rw [hv] at cv
  show Calls _ _ _ _ fun e w' => e = .returned (.tuple #[.string ⟨#[]⟩, .int .i64 50]) ∧ _
  have CV := hid cv
  clear cv hv
  go_enter Tryz.func27, Tryz.ntmps27
  obtain ⟨⟨p0, p1, p2, p3, p4, p5⟩, _⟩ := six_facts (HC.out W0 (Below.refl _ _))
  go_wp2_with (rw [HW.out])
  refine (CV.out _ HR.out).mono ?_
  rintro e1 z1 ⟨rfl, b1⟩
  have P1 := hid (below_up B0.out b1)
  clear b1 p0 p1 p2 p3 p4 p5
  go_wp2
  go_ret2
  exact ⟨rfl, P1.out⟩
 | true =>
  rw [hv] at cv
  show Calls _ _ _ _ fun e w' => e = .returned (.tuple #[.string (encU n d t b m c), .int .i64 0]) ∧ _
  obtain ⟨ht, hb, hm, hc⟩ := okE_in (okU_parts hv).1
  have hz := fit60_size (okU_parts hv).2
  have c0 := fun W => putI_u t ht W
  have c1 := fun W => putI_u b hb W
  have c2 := fun W => putI_u m hm W
  have c3 := fun W => putI_u c hc W
  have cn := fun W => W1.putString_yes n (by omega) W
  have cd := fun W => W1.putString_yes d (by omega) W
  have ce := fun W => expsOf_u t b m c W
  have ln := W1.putS_le n (by omega); have ld := W1.putS_le d (by omega)
  have l0 := encS_nine ht; have l1 := encS_nine hb; have l2 := encS_nine hm; have l3 := encS_nine hc
  unfold encU
  generalize W1.putS n = SN at *
  generalize W1.putS d = SD at *
  generalize W1.encS t = S0 at *
  generalize W1.encS b = S1 at *
  generalize W1.encS m = S2 at *
  generalize W1.encS c = S3 at *
  obtain ⟨O0, h0⟩ : ∃ x, SN ++ SD = x := ⟨_, rfl⟩
  rw [h0]
  obtain ⟨O1, h1⟩ : ∃ x, O0 ++ S0 = x := ⟨_, rfl⟩
  rw [h1]
  obtain ⟨O2, h2⟩ : ∃ x, O1 ++ S1 = x := ⟨_, rfl⟩
  rw [h2]
  obtain ⟨O3, h3⟩ : ∃ x, O2 ++ S2 = x := ⟨_, rfl⟩
  rw [h3]
  obtain ⟨O4, h4⟩ : ∃ x, O3 ++ S3 = x := ⟨_, rfl⟩
  rw [h4]
  have k0 : O0.size ≤ 200 := by rw [← h0, ByteArray.size_append]; omega
  have k1 : O1.size ≤ 209 := by rw [← h1, ByteArray.size_append]; omega
  have k2 : O2.size ≤ 218 := by rw [← h2, ByteArray.size_append]; omega
  have k3 : O3.size ≤ 227 := by rw [← h3, ByteArray.size_append]; omega
  have KS := hid (show ¬ 9223372036854775807 < SN.size + SD.size by omega)
  have KS0 := hid (show ¬ 9223372036854775807 < O0.size + S0.size by omega)
  have KS1 := hid (show ¬ 9223372036854775807 < O1.size + S1.size by omega)
  have KS2 := hid (show ¬ 9223372036854775807 < O2.size + S2.size by omega)
  have KS3 := hid (show ¬ 9223372036854775807 < O3.size + S3.size by omega)
  have HEE := hid h0; have HE0 := hid h1; have HE1 := hid h2; have HE2 := hid h3; have HE3 := hid h4
  have CV := hid cv; have CN := hid cn; have CD := hid cd; have C0 := hid c0; have C1 := hid c1; have C2 := hid c2; have C3 := hid c3; have CE := hid ce
  clear cv cn cd c0 c1 c2 c3 ce hv ht hb hm hc hz ln ld l0 l1 l2 l3 h0 h1 h2 h3 h4 k0 k1 k2 k3
  go_enter Tryz.func27, Tryz.ntmps27
  obtain ⟨⟨p0, p1, p2, p3, p4, p5⟩, _⟩ := six_facts (HC.out W0 (Below.refl _ _))
  go_wp2_with (rw [HW.out])
  refine (CV.out _ HR.out).mono ?_
  rintro e1 z1 ⟨rfl, b1⟩
  have B1 := hid b1
  clear b1 p0 p1 p2 p3 p4 p5
  obtain ⟨⟨p0, p1, p2, p3, p4, p5⟩, _⟩ := six_facts (HC.out z1 B1.out)
  go_wp2_with fail
  refine (CN.out _).mono ?_
  rintro e1 z2 ⟨rfl, b2⟩
  have B2 := hid (below_up B1.out b2)
  clear b2 p0 p1 p2 p3 p4 p5
  obtain ⟨⟨p0, p1, p2, p3, p4, p5⟩, _⟩ := six_facts (HC.out z2 B2.out)
  go_wp2_with fail
  refine (CD.out _).mono ?_
  rintro e1 z3 ⟨rfl, b3⟩
  have B3 := hid (below_up B2.out b3)
  clear b3 p0 p1 p2 p3 p4 p5
  obtain ⟨⟨p0, p1, p2, p3, p4, p5⟩, _⟩ := six_facts (HC.out z3 B3.out)
  have ks := KS.out
  have hee := HEE.out
  go_wp2_with fail
  refine (CE.out _).mono ?_
  rintro e1 z4 ⟨rfl, b4⟩
  have B4 := hid (below_up B3.out b4)
  clear b4 p0 p1 p2 p3 p4 p5 ks
  go_wp2_with fail
  clear hee
  go_loopw [8, 36] (fun v i wr => Hid (Below z4.heap.size z4 wr) ∧ ((v = .string O0 ∧ i = .int .i64 0) ∨ (v = .string O1 ∧ i = .int .i64 1) ∨ (v = .string O2 ∧ i = .int .i64 2) ∨ (v = .string O3 ∧ i = .int .i64 3) ∨ (v = .string O4 ∧ i = .int .i64 4))) (fun _ i _ => 4 - (RowKit.intOf i).toNat)
  case atStart => exact ⟨hid (Below.refl _ _), .inl ⟨rfl, rfl⟩⟩
  obtain ⟨hbw, ⟨rfl, rfl⟩ | ⟨rfl, rfl⟩ | ⟨rfl, rfl⟩ | ⟨rfl, rfl⟩ | ⟨rfl, rfl⟩⟩ := hrel
  · have ks := KS0.out
    have tix := idx4_0 (.int .i64 t) (.int .i64 b) (.int .i64 m) (.int .i64 c) wr
    go_wp2_with fail
    refine (C0.out _).mono ?_
    rintro e1 x1 ⟨rfl, b1⟩
    have PX := hid (below_up hbw.out b1)
    clear b1 tix
    go_wp2_with fail
    go_roundw
    case rel => exact ⟨PX, .inr (.inl ⟨congrArg Value.string HE0.out, rfl⟩)⟩
    case measure => simp [RowKit.intOf]
  · have ks := KS1.out
    have tix := idx4_1 (.int .i64 t) (.int .i64 b) (.int .i64 m) (.int .i64 c) wr
    go_wp2_with fail
    refine (C1.out _).mono ?_
    rintro e1 x1 ⟨rfl, b1⟩
    have PX := hid (below_up hbw.out b1)
    clear b1 tix
    go_wp2_with fail
    go_roundw
    case rel => exact ⟨PX, .inr (.inr (.inl ⟨congrArg Value.string HE1.out, rfl⟩))⟩
    case measure => simp [RowKit.intOf]
  · have ks := KS2.out
    have tix := idx4_2 (.int .i64 t) (.int .i64 b) (.int .i64 m) (.int .i64 c) wr
    go_wp2_with fail
    refine (C2.out _).mono ?_
    rintro e1 x1 ⟨rfl, b1⟩
    have PX := hid (below_up hbw.out b1)
    clear b1 tix
    go_wp2_with fail
    go_roundw
    case rel => exact ⟨PX, .inr (.inr (.inr (.inl ⟨congrArg Value.string HE2.out, rfl⟩)))⟩
    case measure => simp [RowKit.intOf]
  · have ks := KS3.out
    have tix := idx4_3 (.int .i64 t) (.int .i64 b) (.int .i64 m) (.int .i64 c) wr
    go_wp2_with fail
    refine (C3.out _).mono ?_
    rintro e1 x1 ⟨rfl, b1⟩
    have PX := hid (below_up hbw.out b1)
    clear b1 tix
    go_wp2_with fail
    go_roundw
    case rel => exact ⟨PX, .inr (.inr (.inr (.inr (⟨congrArg Value.string HE3.out, rfl⟩))))⟩
    case measure => simp [RowKit.intOf]
  go_wp2
  go_ret2
  exact ⟨rfl, below_up B0.out (below_up B4.out hbw.out)⟩
end Go.Proofs.YtcglcgphgahnpaaGreatDoor
