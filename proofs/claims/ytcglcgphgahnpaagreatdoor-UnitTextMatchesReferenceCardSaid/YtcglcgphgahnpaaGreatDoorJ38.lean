/-
  What Decode answers, plainly; the contracts of reading an integer and a string at an offset, of package wire and of its reference. Plain mathematics of layer 5's laws: what Print and Encode give is read back, and what is read is what they give. The contract of the reference of layer 5: Encode. The contract of the reference of layer 5: Decode. The reference's Valid, Print, Parse, Encode and Decode over quantities, in the form that the program's have.
-/
import Derived.Test.YtcglcgphgahnpaaGreatDoorJ25
import Derived.Test.YtcglcgphgahnpaaGreatDoorJ34
import Derived.Test.YtcglcgphgahnpaaGreatDoorJ35
import Derived.Test.YtcglcgphgahnpaaGreatDoorJ36
set_option maxRecDepth 100000
set_option maxHeartbeats 16000000
namespace Go.Proofs.YtcglcgphgahnpaaGreatDoor
open Go Go.Proofs Go.RowKit Go.Lib
theorem intY_r {s : ByteArray} (hs : s.size ≤ 1000000) {p : Nat} (hp : p ≤ s.size) {x : Int} {q : Nat} (h : getI s p = some (x, q)) (w : World) : Calls Tryz.prog 79 #[.string s, .int .i64 (p : Nat)] w fun e w' => e = .returned (.tuple #[.int .i64 x, .int .i64 ((q : Nat) : Int), .int .i64 0]) ∧ Below w.heap.size w w' := by
 obtain ⟨z, n, h1, rfl, rfl⟩ := scan_getI h
 exact (W1.refInt_some s (by omega) p hp z n h1 w).mono fun e w' h => ⟨h.1.trans (pair_ret (by omega)), h.2⟩
theorem intN_r {s : ByteArray} (hs : s.size ≤ 1000000) {p : Nat} (hp : p ≤ s.size) (h : getI s p = none) (w : World) : Calls Tryz.prog 79 #[.string s, .int .i64 (p : Nat)] w fun e w' => e = .returned (.tuple #[.int .i64 0, .int .i64 0, .int .i64 10]) ∧ Below w.heap.size w w' :=
 (W1.refInt_none s (by omega) p hp (scan_getI_none h) w).mono (fun e w' h => h)
theorem strY_r {s : ByteArray} (hs : s.size ≤ 1000000) {p : Nat} (hp : p ≤ s.size) {x : ByteArray} {q : Nat} (h : getS s p = some (x, q)) (w : World) : Calls Tryz.prog 78 #[.string s, .int .i64 (p : Nat)] w fun e w' => e = .returned (.tuple #[.string x, .int .i64 ((q : Nat) : Int), .int .i64 0]) ∧ Below w.heap.size w w' := by
 obtain ⟨z, n, m, h1, h2, h3, h4, rfl, rfl⟩ := scan_getS h
 exact (W1.refString_ok s (by omega) p hp z n m h1 h2 h3 h4 w).mono fun e w' h => ⟨h.1.trans (pair_ret (by omega)), h.2⟩
theorem strN_r {s : ByteArray} (hs : s.size ≤ 1000000) {p : Nat} (hp : p ≤ s.size) (h : getS s p = none) (w : World) : Calls Tryz.prog 78 #[.string s, .int .i64 (p : Nat)] w fun e w' => e = .returned (.tuple #[.string ⟨#[]⟩, .int .i64 0, .int .i64 10]) ∧ Below w.heap.size w w' := by
 rcases scan_getS_none h with h1 | ⟨z, n, h1, h2⟩
 · exact (W1.refString_none s (by omega) p hp h1 w).mono (fun e w' h => h)
 exact (W1.refString_bad s (by omega) p hp z n h1 h2 w).mono (fun e w' h => h)
def Qt.text5 (q : Qt) : ByteArray := printU q.n q.d q.t q.b q.m q.c
def Qt.code5 (q : Qt) : ByteArray := encT q.n q.d q.t q.b q.m q.c
theorem text5_eq {q : Qt} (h : q.ok = true) : q.text5 = textU q.n q.d q.t q.b q.m q.c := if_pos h
theorem text5_no {q : Qt} (h : q.ok = false) : q.text5 = ⟨#[]⟩ := printU_bad h
theorem code5_eq {q : Qt} (h : q.ok = true) : q.code5 = encU q.n q.d q.t q.b q.m q.c := if_pos h
theorem code5_no {q : Qt} (h : q.ok = false) : q.code5 = ⟨#[]⟩ := if_neg (by rw [show okU q.n q.d q.t q.b q.m q.c = false from h]; decide)
theorem text5_size (q : Qt) : q.text5.size ≤ 232 := by
 cases h : q.ok with
 | false => rw [text5_no h]; exact Nat.zero_le _
 | true =>
  obtain ⟨ht, hb, hm, hc⟩ := okE_in (okU_parts h).1
  have h1 := printB_len (okU_parts h).2
  have h2 := unit_len ht hb hm hc
  rw [text5_eq h, textU_size]
  omega
theorem code5_size (q : Qt) : q.code5.size ≤ 200 := by
 cases h : q.ok with
 | false => rw [code5_no h]; exact Nat.zero_le _
 | true =>
  obtain ⟨ht, hb, hm, hc⟩ := okE_in (okU_parts h).1
  have hz := fit60_size (okU_parts h).2
  have h1 := W1.encS_size_le (q.n.size : Int) (by omega) (by omega)
  have h2 := W1.encS_size_le (q.d.size : Int) (by omega) (by omega)
  have h3 := encS_nine ht; have h4 := encS_nine hb; have h5 := encS_nine hm; have h6 := encS_nine hc
  rw [code5_eq h, encU_size, putS_len, putS_len]
  omega
theorem encU_pos (n d : ByteArray) (t b m c : Int) : 0 < (encU n d t b m c).size := by
 have := W1.encS_pos' t
 rw [encU_size]
 omega
theorem code5_pos {q : Qt} (h : q.ok = true) : 0 < q.code5.size := by rw [code5_eq h]; exact encU_pos _ _ _ _ _ _
theorem par_empty : parUB ⟨#[]⟩ = false := by decide +kernel
theorem text5_pos {q : Qt} (h : q.ok = true) : 0 < q.text5.size := by
 rcases Nat.eq_zero_or_pos q.text5.size with h0 | h0
 · have e : q.text5 = ⟨#[]⟩ := bytesL_inj (List.eq_nil_of_length_eq_zero ((bytesL_length _).trans h0))
   have k := (parU_print h).1
   rw [← text5_eq h, e, par_empty] at k
   cases k
 exact h0
theorem encode_q5 (q : Qt) (hq : q.short) (w : World) (hR : Ready w) : Calls Tryz.prog 27 #[.agg #[.string q.n, .string q.d, .int .i64 q.t, .int .i64 q.b, .int .i64 q.m, .int .i64 q.c]] w fun e w' => e = .returned (.tuple #[.string q.code5, .int .i64 (eU q.ok)]) ∧ Below w.heap.size w w' :=
 encode_u q.n q.d q.t q.b q.m q.c (Nat.le_trans hq.1 (by decide)) (Nat.le_trans hq.2 (by decide)) w hR
theorem encS_small {x : Int} (h : InE x) : (W1.encS x).size ≤ 9 := W1.encS_size_le x (by unfold InE at h; omega) (by unfold InE at h; omega)
theorem box_exps (w : World) (t b m c : Int) : ∃ W0, w.alloc (.cells #[.int .i64 t, .int .i64 b, .int .i64 m, .int .i64 c] 28) = W0 ∧ Below w.heap.size w W0 ∧
 ∀ W, Below W0.heap.size W0 W → CellsAt W w.heap.size [.int .i64 t, .int .i64 b, .int .i64 m, .int .i64 c] := by
 obtain ⟨W1, h1⟩ : ∃ W, w.alloc (.cells #[.int .i64 t, .int .i64 b, .int .i64 m, .int .i64 c] 28) = W := ⟨_, rfl⟩
 have b1 : Below w.heap.size w W1 := by rw [← h1]; exact (Below.refl _ _).alloc (Nat.le_refl _) _
 have k1 : CellsAt W1 w.heap.size [.int .i64 t, .int .i64 b, .int .i64 m, .int .i64 c] := by rw [← h1]; exact cellsAt_new rfl
 exact ⟨W1, h1, b1, fun W hb => k1.below hb⟩
theorem encodeUR_any (n d : ByteArray) (t b m c : Int) (hn : n.size ≤ 1099511627776) (hd : d.size ≤ 1099511627776) (w : World) : Calls Tryz.prog 28 #[.agg #[.string n, .string d, .int .i64 t, .int .i64 b, .int .i64 m, .int .i64 c]] w fun e w' => e = .returned (.tuple #[.string (if okU n d t b m c then encU n d t b m c else ⟨#[]⟩), .int .i64 (if okU n d t b m c then 0 else 50)]) ∧ Below w.heap.size w w' := by
 obtain ⟨W0, hW0, b0, hcc⟩ := box_qty w n d t b m c
 have cv := fun W => validUR_any n d t b m c hn hd W
 have HW := hid hW0; have B0 := hid b0; have HC := hid hcc
 clear hW0 b0 hcc
 cases hv : okU n d t b m c with
 | false =>
  rw [hv] at cv
  show Calls _ _ _ _ fun e w' => e = .returned (.tuple #[.string ⟨#[]⟩, .int .i64 50]) ∧ _
  have CV := hid cv
  clear cv hv
  go_enter Tryz.func28, Tryz.ntmps28
  obtain ⟨⟨p0, p1, p2, p3, p4, p5⟩, ⟨p6, p7, p8, p9, pa, pb⟩⟩ := qty_facts (HC.out W0 (Below.refl _ _))
  go_wp2_with (rw [HW.out])
  refine (CV.out _).mono ?_
  rintro e1 z1 ⟨rfl, b1⟩
  have P1 := hid (below_up B0.out b1)
  clear b1 p0 p1 p2 p3 p4 p5 p6 p7 p8 p9 pa pb
  go_wp2
  go_ret2
  exact ⟨rfl, P1.out⟩
 | true =>
  rw [hv] at cv
  show Calls _ _ _ _ fun e w' => e = .returned (.tuple #[.string (encU n d t b m c), .int .i64 0]) ∧ _
  obtain ⟨ht, hb, hm, hc⟩ := okE_in (okU_parts hv).1
  have hz := fit60_size (okU_parts hv).2
  have c0 := fun W => W1.refPut_yes t (by unfold InE at ht; omega) (by unfold InE at ht; omega) W
  have c1 := fun W => W1.refPut_yes b (by unfold InE at hb; omega) (by unfold InE at hb; omega) W
  have c2 := fun W => W1.refPut_yes m (by unfold InE at hm; omega) (by unfold InE at hm; omega) W
  have c3 := fun W => W1.refPut_yes c (by unfold InE at hc; omega) (by unfold InE at hc; omega) W
  have cn := fun W => W1.refPutString_ok n (by omega) W
  have cd := fun W => W1.refPutString_ok d (by omega) W
  have ln := W1.putS_le n (by omega); have ld := W1.putS_le d (by omega)
  have l0 := encS_small ht; have l1 := encS_small hb; have l2 := encS_small hm; have l3 := encS_small hc
  rw [show W1.encS n.size ++ n = W1.putS n from rfl] at cn
  rw [show W1.encS d.size ++ d = W1.putS d from rfl] at cd
  unfold encU
  generalize W1.putS n = SN at *
  generalize W1.putS d = SD at *
  generalize W1.encS t = S0 at *
  generalize W1.encS b = S1 at *
  generalize W1.encS m = S2 at *
  generalize W1.encS c = S3 at *
  obtain ⟨O0, h0⟩ : ∃ x, SN ++ SD = x := ⟨_, rfl⟩
  rw [h0]
  obtain ⟨O1, h1⟩ : ∃ x, O0 ++ S0 = x := ⟨_, rfl⟩
  rw [h1]
  obtain ⟨O2, h2⟩ : ∃ x, O1 ++ S1 = x := ⟨_, rfl⟩
  rw [h2]
  obtain ⟨O3, h3⟩ : ∃ x, O2 ++ S2 = x := ⟨_, rfl⟩
  rw [h3]
  obtain ⟨O4, h4⟩ : ∃ x, O3 ++ S3 = x := ⟨_, rfl⟩
  rw [h4]
  have k0 : O0.size ≤ 200 := by rw [← h0, ByteArray.size_append]; omega
  have k1 : O1.size ≤ 209 := by rw [← h1, ByteArray.size_append]; omega
  have k2 : O2.size ≤ 218 := by rw [← h2, ByteArray.size_append]; omega
  have k3 : O3.size ≤ 227 := by rw [← h3, ByteArray.size_append]; omega
  have KS := hid (show ¬ 9223372036854775807 < SN.size + SD.size by omega)
  have KS0 := hid (show ¬ 9223372036854775807 < O0.size + S0.size by omega)
  have KS1 := hid (show ¬ 9223372036854775807 < O1.size + S1.size by omega)
  have KS2 := hid (show ¬ 9223372036854775807 < O2.size + S2.size by omega)
  have KS3 := hid (show ¬ 9223372036854775807 < O3.size + S3.size by omega)
  have HEE := hid h0; have HE0 := hid h1; have HE1 := hid h2; have HE2 := hid h3; have HE3 := hid h4
  have CV := hid cv; have CN := hid cn; have CD := hid cd; have C0 := hid c0; have C1 := hid c1; have C2 := hid c2; have C3 := hid c3
  clear cv cn cd c0 c1 c2 c3 hv ht hb hm hc hz ln ld l0 l1 l2 l3 h0 h1 h2 h3 h4 k0 k1 k2 k3
  go_enter Tryz.func28, Tryz.ntmps28
  obtain ⟨⟨p0, p1, p2, p3, p4, p5⟩, ⟨p6, p7, p8, p9, pa, pb⟩⟩ := qty_facts (HC.out W0 (Below.refl _ _))
  go_wp2_with (rw [HW.out])
  refine (CV.out _).mono ?_
  rintro e1 z1 ⟨rfl, b1⟩
  have B1 := hid b1
  clear b1 p0 p1 p2 p3 p4 p5 p6 p7 p8 p9 pa pb
  obtain ⟨⟨p0, p1, p2, p3, p4, p5⟩, ⟨p6, p7, p8, p9, pa, pb⟩⟩ := qty_facts (HC.out z1 B1.out)
  go_wp2_with fail
  refine (CN.out _).mono ?_
  rintro e1 z2 ⟨rfl, b2⟩
  have B2 := hid (below_up B1.out b2)
  clear b2 p0 p1 p2 p3 p4 p5 p6 p7 p8 p9 pa pb
  obtain ⟨⟨p0, p1, p2, p3, p4, p5⟩, ⟨p6, p7, p8, p9, pa, pb⟩⟩ := qty_facts (HC.out z2 B2.out)
  go_wp2_with fail
  refine (CD.out _).mono ?_
  rintro e1 z3 ⟨rfl, b3⟩
  have B3 := hid (below_up B2.out b3)
  clear b3 p0 p1 p2 p3 p4 p5 p6 p7 p8 p9 pa pb
  obtain ⟨⟨p0, p1, p2, p3, p4, p5⟩, ⟨p6, p7, p8, p9, pa, pb⟩⟩ := qty_facts (HC.out z3 B3.out)
  obtain ⟨z4, hz4, b4, f4⟩ := box_exps z3 t b m c
  have V4 := hid hz4; have FX := hid f4
  have P4 := hid (below_up B0.out (below_up B3.out b4))
  clear hz4 f4 b4
  have ks := KS.out
  have hee := HEE.out
  go_wp2_with (rw [V4.out])
  clear p0 p1 p2 p3 p4 p5 p6 p7 p8 p9 pa pb ks hee
  go_loopw [8, 10] (fun v i wr => Hid (Below z4.heap.size z4 wr) ∧ ((v = .string O0 ∧ i = .int .i64 0) ∨ (v = .string O1 ∧ i = .int .i64 1) ∨ (v = .string O2 ∧ i = .int .i64 2) ∨ (v = .string O3 ∧ i = .int .i64 3) ∨ (v = .string O4 ∧ i = .int .i64 4))) (fun _ i _ => 4 - (RowKit.intOf i).toNat)
  case atStart => exact ⟨hid (Below.refl _ _), .inl ⟨rfl, rfl⟩⟩
  obtain ⟨hbw, ⟨rfl, rfl⟩ | ⟨rfl, rfl⟩ | ⟨rfl, rfl⟩ | ⟨rfl, rfl⟩ | ⟨rfl, rfl⟩⟩ := hrel
  · have ks := KS0.out
    obtain ⟨⟨u0, u1, u2, u3⟩, _⟩ := unit_facts (FX.out wr hbw.out)
    go_wp2_with fail
    refine (C0.out _).mono ?_
    rintro e1 x1 ⟨rfl, b1⟩
    have PX := hid (below_up hbw.out b1)
    clear b1 u0 u1 u2 u3
    go_wp2_with fail
    go_roundw
    case rel => exact ⟨PX, .inr (.inl ⟨congrArg Value.string HE0.out, rfl⟩)⟩
    case measure => simp [RowKit.intOf]
  · have ks := KS1.out
    obtain ⟨⟨u0, u1, u2, u3⟩, _⟩ := unit_facts (FX.out wr hbw.out)
    go_wp2_with fail
    refine (C1.out _).mono ?_
    rintro e1 x1 ⟨rfl, b1⟩
    have PX := hid (below_up hbw.out b1)
    clear b1 u0 u1 u2 u3
    go_wp2_with fail
    go_roundw
    case rel => exact ⟨PX, .inr (.inr (.inl ⟨congrArg Value.string HE1.out, rfl⟩))⟩
    case measure => simp [RowKit.intOf]
  · have ks := KS2.out
    obtain ⟨⟨u0, u1, u2, u3⟩, _⟩ := unit_facts (FX.out wr hbw.out)
    go_wp2_with fail
    refine (C2.out _).mono ?_
    rintro e1 x1 ⟨rfl, b1⟩
    have PX := hid (below_up hbw.out b1)
    clear b1 u0 u1 u2 u3
    go_wp2_with fail
    go_roundw
    case rel => exact ⟨PX, .inr (.inr (.inr (.inl ⟨congrArg Value.string HE2.out, rfl⟩)))⟩
    case measure => simp [RowKit.intOf]
  · have ks := KS3.out
    obtain ⟨⟨u0, u1, u2, u3⟩, _⟩ := unit_facts (FX.out wr hbw.out)
    go_wp2_with fail
    refine (C3.out _).mono ?_
    rintro e1 x1 ⟨rfl, b1⟩
    have PX := hid (below_up hbw.out b1)
    clear b1 u0 u1 u2 u3
    go_wp2_with fail
    go_roundw
    case rel => exact ⟨PX, .inr (.inr (.inr (.inr (⟨congrArg Value.string HE3.out, rfl⟩))))⟩
    case measure => simp [RowKit.intOf]
  go_wp2
  go_ret2
  exact ⟨rfl, below_up P4.out hbw.out⟩
theorem hcz_lt' {W : World} {B : Nat} {v : Value} {vs : List Value} (h : CellsAt W B (v :: vs)) : B < W.heap.size := World.block_lt_of_cell? W ⟨B, 0, none⟩ (h 0 (Nat.zero_lt_succ _)).1
theorem decodeR_any (s : ByteArray) (hs : s.size ≤ 1000000) (a : Int) (w : World) : Calls Tryz.prog 34 #[.string s, .int .i64 a] w fun e w' => e = .returned (.tuple #[.agg #[.string (decQt s a).n, .string (decQt s a).d, .int .i64 (decQt s a).t, .int .i64 (decQt s a).b, .int .i64 (decQt s a).m, .int .i64 (decQt s a).c], .int .i64 (decP s a), .int .i64 (decE s a)]) ∧ Below w.heap.size w w' := by
 obtain ⟨W0, hW0, b0, s0, hcc⟩ := lay1 w (.string ⟨#[]⟩) [.string ⟨#[]⟩, .int .i64 0, .int .i64 0, .int .i64 0, .int .i64 0] 27
 have HW := hid hW0; have B0 := hid b0; have HC := hid hcc
 clear hW0 b0 hcc s0
 by_cases hin : 0 ≤ a ∧ a ≤ s.size
 · obtain ⟨p, hp⟩ : ∃ p : Nat, a = (p : Int) := ⟨a.toNat, by omega⟩
   subst hp
   have hp : p ≤ s.size := by omega
   obtain ⟨e1, e2, e3⟩ := dec_in hp
   rw [e1, e2, e3]
   clear e1 e2 e3
   obtain ⟨O, hO⟩ : ∃ O, decU s p = O := ⟨_, rfl⟩
   rw [hO]
   have h1 : ¬ (p : Int) < 0 := by omega
   have h2 : ¬ (s.size : Int) < (p : Int) := by omega
   have HO := hid hO
   clear hin hO
   obtain ⟨QN, hQN⟩ : ∃ v, (optQt O).n = v := ⟨_, rfl⟩
   obtain ⟨QD, hQD⟩ : ∃ v, (optQt O).d = v := ⟨_, rfl⟩
   obtain ⟨QT, hQT⟩ : ∃ v, (optQt O).t = v := ⟨_, rfl⟩
   obtain ⟨QB, hQB⟩ : ∃ v, (optQt O).b = v := ⟨_, rfl⟩
   obtain ⟨QM, hQM⟩ : ∃ v, (optQt O).m = v := ⟨_, rfl⟩
   obtain ⟨QC, hQC⟩ : ∃ v, (optQt O).c = v := ⟨_, rfl⟩
   obtain ⟨QP, hQP⟩ : ∃ v, optP O = v := ⟨_, rfl⟩
   obtain ⟨QE, hQE⟩ : ∃ v, optE O = v := ⟨_, rfl⟩
   rw [hQN, hQD, hQT, hQB, hQM, hQC, hQP, hQE]
   have HALL := hid (show (optQt O).n = QN ∧ (optQt O).d = QD ∧ (optQt O).t = QT ∧ (optQt O).b = QB ∧ (optQt O).m = QM ∧ (optQt O).c = QC ∧ optP O = QP ∧ optE O = QE from ⟨hQN, hQD, hQT, hQB, hQM, hQC, hQP, hQE⟩)
   clear hQN hQD hQT hQB hQM hQC hQP hQE
   go_enter Tryz.func34, Tryz.ntmps34
   go_upto_region 1 with (rw [HW.out])
   go_upto_region 3 with fail
   clear h1 h2
   cases hg : getS s p with
   | none =>
    have cs := fun W => strN_r hs hp hg W
    have hdn := decU_none hg
    have hO : O = none := HO.out.symm.trans hdn
    subst hO
    obtain ⟨rfl, rfl, rfl, rfl, rfl, rfl, rfl, rfl⟩ := HALL.out
    have CS := hid cs
    clear cs hg hdn
    go_wp2_with fail
    refine (CS.out _).mono ?_
    rintro e z1 ⟨rfl, b1⟩
    have P1 := hid b1
    clear b1
    obtain ⟨y, hy⟩ : ∃ y, ((((((z1.setCell ⟨w.heap.size, 0, none⟩ (.string ⟨#[]⟩)).setCell ⟨w.heap.size, 1, none⟩ (.string ⟨#[]⟩)).setCell ⟨w.heap.size, 2, none⟩ (.int .i64 0)).setCell ⟨w.heap.size, 3, none⟩ (.int .i64 0)).setCell ⟨w.heap.size, 4, none⟩ (.int .i64 0)).setCell ⟨w.heap.size, 5, none⟩ (.int .i64 0)) = y := ⟨_, rfl⟩
    have KY := hid (show CellsAt y w.heap.size [.string ⟨#[]⟩, .string ⟨#[]⟩, .int .i64 0, .int .i64 0, .int .i64 0, .int .i64 0] by rw [← hy]; exact put6 (HC.out z1 P1.out) _ _ _ _ _ _)
    have BY := hid (show Below w.heap.size w y by rw [← hy]; exact low6 (Nat.le_refl _) (below_up B0.out P1.out) _ _ _ _ _ _)
    have HY := hid hy
    obtain ⟨⟨r0, r1, r2, r3, r4, r5⟩, ⟨r6, r7, r8, r9, ra, rb⟩⟩ := six_facts (HC.out z1 P1.out)
    clear hy
    go_wp2_with (rw [HY.out])
    obtain ⟨⟨t0, t1, t2, t3, t4, t5⟩, _⟩ := six_facts KY.out
    exact bodyPost_ret (v := .tuple #[.agg #[.string ⟨#[]⟩, .string ⟨#[]⟩, .int .i64 0, .int .i64 0, .int .i64 0, .int .i64 0], .int .i64 0, .int .i64 50]) (by simp [results, Tryz.results34, go_sem, t0, t1, t2, t3, t4, t5]) rfl ⟨rfl, BY.out⟩
   | some nq =>
    obtain ⟨VN, p1⟩ := nq
    have cs := fun W => strY_r hs hp hg W
    have hf := getS_sound hg
    have CS := hid cs
    have hvn := hf.1; have hp1 := hf.2.2.1
    clear cs hf
    go_wp2_with fail
    refine (CS.out _).mono ?_
    rintro e z1 ⟨rfl, b1⟩
    have P1 := hid b1
    clear b1
    go_upto_region 6 with fail
    cases hg2 : getS s p1 with
    | none =>
     have cs2 := fun W => strN_r hs hp1 hg2 W
     have hdn := decU_half hg hg2
     have hO : O = none := HO.out.symm.trans hdn
     subst hO
     obtain ⟨rfl, rfl, rfl, rfl, rfl, rfl, rfl, rfl⟩ := HALL.out
     have CS2 := hid cs2
     clear cs2 hg2 hg hdn
     go_wp2_with fail
     refine (CS2.out _).mono ?_
     rintro e z2 ⟨rfl, b2⟩
     have P2 := hid (below_up P1.out b2)
     clear b2
     obtain ⟨y, hy⟩ : ∃ y, ((((((z2.setCell ⟨w.heap.size, 0, none⟩ (.string ⟨#[]⟩)).setCell ⟨w.heap.size, 1, none⟩ (.string ⟨#[]⟩)).setCell ⟨w.heap.size, 2, none⟩ (.int .i64 0)).setCell ⟨w.heap.size, 3, none⟩ (.int .i64 0)).setCell ⟨w.heap.size, 4, none⟩ (.int .i64 0)).setCell ⟨w.heap.size, 5, none⟩ (.int .i64 0)) = y := ⟨_, rfl⟩
     have KY := hid (show CellsAt y w.heap.size [.string ⟨#[]⟩, .string ⟨#[]⟩, .int .i64 0, .int .i64 0, .int .i64 0, .int .i64 0] by rw [← hy]; exact put6 (HC.out z2 P2.out) _ _ _ _ _ _)
     have BY := hid (show Below w.heap.size w y by rw [← hy]; exact low6 (Nat.le_refl _) (below_up B0.out P2.out) _ _ _ _ _ _)
     have HY := hid hy
     obtain ⟨⟨r0, r1, r2, r3, r4, r5⟩, ⟨r6, r7, r8, r9, ra, rb⟩⟩ := six_facts (HC.out z2 P2.out)
     clear hy
     go_wp2_with (rw [HY.out])
     obtain ⟨⟨t0, t1, t2, t3, t4, t5⟩, _⟩ := six_facts KY.out
     exact bodyPost_ret (v := .tuple #[.agg #[.string ⟨#[]⟩, .string ⟨#[]⟩, .int .i64 0, .int .i64 0, .int .i64 0, .int .i64 0], .int .i64 0, .int .i64 50]) (by simp [results, Tryz.results34, go_sem, t0, t1, t2, t3, t4, t5]) rfl ⟨rfl, BY.out⟩
    | some dq =>
     obtain ⟨VD, p2⟩ := dq
     have cs2 := fun W => strY_r hs hp1 hg2 W
     have hf := getS_sound hg2
     have hd0 := decU_both hg hg2
     have CS2 := hid cs2; have HD0 := hid hd0
     have hvd := hf.1; have hp2 := hf.2.2.1
     have HP2 := hid hp2
     clear cs2 hf hg2 hg hd0 hp1 hp2
     go_wp2_with fail
     refine (CS2.out _).mono ?_
     rintro e z2 ⟨rfl, b2⟩
     have B2 := hid (below_up P1.out b2)
     clear b2
     obtain ⟨z3, hz3, b3, s3, f3⟩ := lay1 z2 (.int .i64 0) [.int .i64 0, .int .i64 0, .int .i64 0] 28
     obtain ⟨X, hX0⟩ : ∃ X, z2.heap.size = X := ⟨_, rfl⟩
     rw [hX0] at b3 f3
     have V3 := hid hz3; have F3 := hid f3; have B3 := hid b3; have HXE := hid hX0
     clear hz3 f3 b3 s3 hX0
     go_upto_region 10 with (rw [V3.out])
     rw [HXE.out]
     go_wp2_with fail
     go_loopw [11, 14] (fun av i wr => Below X z2 wr ∧ ((∃ P : Nat, av = .int .i64 (P : Int) ∧ i = .int .i64 0 ∧ CellsAt wr X [.int .i64 0, .int .i64 0, .int .i64 0, .int .i64 0] ∧ P ≤ s.size ∧ decU s p = dK0 s VN VD P) ∨ (∃ E0 : Int, ∃ P : Nat, av = .int .i64 (P : Int) ∧ i = .int .i64 1 ∧ CellsAt wr X [.int .i64 E0, .int .i64 0, .int .i64 0, .int .i64 0] ∧ P ≤ s.size ∧ decU s p = dK1 s VN VD E0 P) ∨ (∃ E0 E1 : Int, ∃ P : Nat, av = .int .i64 (P : Int) ∧ i = .int .i64 2 ∧ CellsAt wr X [.int .i64 E0, .int .i64 E1, .int .i64 0, .int .i64 0] ∧ P ≤ s.size ∧ decU s p = dK2 s VN VD E0 E1 P) ∨ (∃ E0 E1 E2 : Int, ∃ P : Nat, av = .int .i64 (P : Int) ∧ i = .int .i64 3 ∧ CellsAt wr X [.int .i64 E0, .int .i64 E1, .int .i64 E2, .int .i64 0] ∧ P ≤ s.size ∧ decU s p = dK3 s VN VD E0 E1 E2 P) ∨ (∃ E0 E1 E2 E3 : Int, ∃ P : Nat, av = .int .i64 (P : Int) ∧ i = .int .i64 4 ∧ CellsAt wr X [.int .i64 E0, .int .i64 E1, .int .i64 E2, .int .i64 E3] ∧ P ≤ s.size ∧ decU s p = dK4 VN VD E0 E1 E2 E3 P))) (fun _ i _ => 4 - (RowKit.intOf i).toNat)
     case atStart => exact ⟨B3.out, .inl ⟨p2, rfl, rfl, F3.out z3 (Below.refl _ _), HP2.out, HD0.out⟩⟩
     obtain ⟨hbw, ⟨P, rfl, rfl, hX, hp, hd⟩ | ⟨E0, P, rfl, rfl, hX, hp, hd⟩ | ⟨E0, E1, P, rfl, rfl, hX, hp, hd⟩ | ⟨E0, E1, E2, P, rfl, rfl, hX, hp, hd⟩ | ⟨E0, E1, E2, E3, P, rfl, rfl, hX, hp, hd⟩⟩ := hrel
     · cases hg : getI s P with
       | none =>
        have ci := fun W => intN_r hs hp hg W
        have hdn := hd.trans (dK0_none hg)
        have hO : O = none := HO.out.symm.trans hdn
        subst hO
        obtain ⟨rfl, rfl, rfl, rfl, rfl, rfl, rfl, rfl⟩ := HALL.out
        have CI := hid ci
        have HBW := hid (below_up B2.out (show Below z2.heap.size z2 wr by rw [HXE.out]; exact hbw))
        clear ci hg hdn hd hX hbw hp
        go_wp2_with fail
        refine (CI.out _).mono ?_
        rintro e x1 ⟨rfl, b1⟩
        have PX := hid (below_up HBW.out b1)
        clear b1
        obtain ⟨y, hy⟩ : ∃ y, ((((((x1.setCell ⟨w.heap.size, 0, none⟩ (.string ⟨#[]⟩)).setCell ⟨w.heap.size, 1, none⟩ (.string ⟨#[]⟩)).setCell ⟨w.heap.size, 2, none⟩ (.int .i64 0)).setCell ⟨w.heap.size, 3, none⟩ (.int .i64 0)).setCell ⟨w.heap.size, 4, none⟩ (.int .i64 0)).setCell ⟨w.heap.size, 5, none⟩ (.int .i64 0)) = y := ⟨_, rfl⟩
        have KY := hid (show CellsAt y w.heap.size [.string ⟨#[]⟩, .string ⟨#[]⟩, .int .i64 0, .int .i64 0, .int .i64 0, .int .i64 0] by rw [← hy]; exact put6 (HC.out x1 PX.out) _ _ _ _ _ _)
        have BY := hid (show Below w.heap.size w y by rw [← hy]; exact low6 (Nat.le_refl _) (below_up B0.out PX.out) _ _ _ _ _ _)
        have HY := hid hy
        obtain ⟨⟨r0, r1, r2, r3, r4, r5⟩, ⟨r6, r7, r8, r9, ra, rb⟩⟩ := six_facts (HC.out x1 PX.out)
        clear hy
        go_wp2_with (rw [HY.out])
        obtain ⟨⟨t0, t1, t2, t3, t4, t5⟩, _⟩ := six_facts KY.out
        exact bodyPost_ret (v := .tuple #[.agg #[.string ⟨#[]⟩, .string ⟨#[]⟩, .int .i64 0, .int .i64 0, .int .i64 0, .int .i64 0], .int .i64 0, .int .i64 50]) (by simp [results, Tryz.results34, go_sem, t0, t1, t2, t3, t4, t5]) rfl ⟨rfl, BY.out⟩
       | some xq =>
        obtain ⟨x, q⟩ := xq
        have ci := fun W => intY_r hs hp hg W
        have hdn := hd.trans (dK0_some hg)
        have hq := getI_fits hp hg
        have CI := hid ci; have HDN := hid hdn; have HQF := hid hq; have HXX := hid hX; have HBW := hid hbw
        clear ci hg hdn hq hX hbw hp hd
        go_wp2_with fail
        refine (CI.out _).mono ?_
        rintro e x1 ⟨rfl, b1⟩
        obtain ⟨⟨a0, a1, a2, a3⟩, ⟨f0, f1, f2, f3⟩⟩ := four_facts (HXX.out.below b1)
        have Bx := hid b1
        clear b1
        go_wp2_with fail
        clear a0 a1 a2 a3 f0 f1 f2 f3
        go_roundw
        case rel => exact ⟨(HBW.out.trans (Bx.out.mono (by have := hcz_lt' HXX.out; omega))).setCell (p := ⟨X, 0, none⟩) (Nat.le_refl _) _, .inr (.inl (⟨x, q, rfl, rfl, (HXX.out.below Bx.out).put 0 (.int .i64 x), HQF.out, HDN.out⟩))⟩
        case measure => simp [RowKit.intOf]
     · cases hg : getI s P with
       | none =>
        have ci := fun W => intN_r hs hp hg W
        have hdn := hd.trans (dK1_none hg)
        have hO : O = none := HO.out.symm.trans hdn
        subst hO
        obtain ⟨rfl, rfl, rfl, rfl, rfl, rfl, rfl, rfl⟩ := HALL.out
        have CI := hid ci
        have HBW := hid (below_up B2.out (show Below z2.heap.size z2 wr by rw [HXE.out]; exact hbw))
        clear ci hg hdn hd hX hbw hp
        go_wp2_with fail
        refine (CI.out _).mono ?_
        rintro e x1 ⟨rfl, b1⟩
        have PX := hid (below_up HBW.out b1)
        clear b1
        obtain ⟨y, hy⟩ : ∃ y, ((((((x1.setCell ⟨w.heap.size, 0, none⟩ (.string ⟨#[]⟩)).setCell ⟨w.heap.size, 1, none⟩ (.string ⟨#[]⟩)).setCell ⟨w.heap.size, 2, none⟩ (.int .i64 0)).setCell ⟨w.heap.size, 3, none⟩ (.int .i64 0)).setCell ⟨w.heap.size, 4, none⟩ (.int .i64 0)).setCell ⟨w.heap.size, 5, none⟩ (.int .i64 0)) = y := ⟨_, rfl⟩
        have KY := hid (show CellsAt y w.heap.size [.string ⟨#[]⟩, .string ⟨#[]⟩, .int .i64 0, .int .i64 0, .int .i64 0, .int .i64 0] by rw [← hy]; exact put6 (HC.out x1 PX.out) _ _ _ _ _ _)
        have BY := hid (show Below w.heap.size w y by rw [← hy]; exact low6 (Nat.le_refl _) (below_up B0.out PX.out) _ _ _ _ _ _)
        have HY := hid hy
        obtain ⟨⟨r0, r1, r2, r3, r4, r5⟩, ⟨r6, r7, r8, r9, ra, rb⟩⟩ := six_facts (HC.out x1 PX.out)
        clear hy
        go_wp2_with (rw [HY.out])
        obtain ⟨⟨t0, t1, t2, t3, t4, t5⟩, _⟩ := six_facts KY.out
        exact bodyPost_ret (v := .tuple #[.agg #[.string ⟨#[]⟩, .string ⟨#[]⟩, .int .i64 0, .int .i64 0, .int .i64 0, .int .i64 0], .int .i64 0, .int .i64 50]) (by simp [results, Tryz.results34, go_sem, t0, t1, t2, t3, t4, t5]) rfl ⟨rfl, BY.out⟩
       | some xq =>
        obtain ⟨x, q⟩ := xq
        have ci := fun W => intY_r hs hp hg W
        have hdn := hd.trans (dK1_some hg)
        have hq := getI_fits hp hg
        have CI := hid ci; have HDN := hid hdn; have HQF := hid hq; have HXX := hid hX; have HBW := hid hbw
        clear ci hg hdn hq hX hbw hp hd
        go_wp2_with fail
        refine (CI.out _).mono ?_
        rintro e x1 ⟨rfl, b1⟩
        obtain ⟨⟨a0, a1, a2, a3⟩, ⟨f0, f1, f2, f3⟩⟩ := four_facts (HXX.out.below b1)
        have Bx := hid b1
        clear b1
        go_wp2_with fail
        clear a0 a1 a2 a3 f0 f1 f2 f3
        go_roundw
        case rel => exact ⟨(HBW.out.trans (Bx.out.mono (by have := hcz_lt' HXX.out; omega))).setCell (p := ⟨X, 1, none⟩) (Nat.le_refl _) _, .inr (.inr (.inl (⟨E0, x, q, rfl, rfl, (HXX.out.below Bx.out).put 1 (.int .i64 x), HQF.out, HDN.out⟩)))⟩
        case measure => simp [RowKit.intOf]
     · cases hg : getI s P with
       | none =>
        have ci := fun W => intN_r hs hp hg W
        have hdn := hd.trans (dK2_none hg)
        have hO : O = none := HO.out.symm.trans hdn
        subst hO
        obtain ⟨rfl, rfl, rfl, rfl, rfl, rfl, rfl, rfl⟩ := HALL.out
        have CI := hid ci
        have HBW := hid (below_up B2.out (show Below z2.heap.size z2 wr by rw [HXE.out]; exact hbw))
        clear ci hg hdn hd hX hbw hp
        go_wp2_with fail
        refine (CI.out _).mono ?_
        rintro e x1 ⟨rfl, b1⟩
        have PX := hid (below_up HBW.out b1)
        clear b1
        obtain ⟨y, hy⟩ : ∃ y, ((((((x1.setCell ⟨w.heap.size, 0, none⟩ (.string ⟨#[]⟩)).setCell ⟨w.heap.size, 1, none⟩ (.string ⟨#[]⟩)).setCell ⟨w.heap.size, 2, none⟩ (.int .i64 0)).setCell ⟨w.heap.size, 3, none⟩ (.int .i64 0)).setCell ⟨w.heap.size, 4, none⟩ (.int .i64 0)).setCell ⟨w.heap.size, 5, none⟩ (.int .i64 0)) = y := ⟨_, rfl⟩
        have KY := hid (show CellsAt y w.heap.size [.string ⟨#[]⟩, .string ⟨#[]⟩, .int .i64 0, .int .i64 0, .int .i64 0, .int .i64 0] by rw [← hy]; exact put6 (HC.out x1 PX.out) _ _ _ _ _ _)
        have BY := hid (show Below w.heap.size w y by rw [← hy]; exact low6 (Nat.le_refl _) (below_up B0.out PX.out) _ _ _ _ _ _)
        have HY := hid hy
        obtain ⟨⟨r0, r1, r2, r3, r4, r5⟩, ⟨r6, r7, r8, r9, ra, rb⟩⟩ := six_facts (HC.out x1 PX.out)
        clear hy
        go_wp2_with (rw [HY.out])
        obtain ⟨⟨t0, t1, t2, t3, t4, t5⟩, _⟩ := six_facts KY.out
        exact bodyPost_ret (v := .tuple #[.agg #[.string ⟨#[]⟩, .string ⟨#[]⟩, .int .i64 0, .int .i64 0, .int .i64 0, .int .i64 0], .int .i64 0, .int .i64 50]) (by simp [results, Tryz.results34, go_sem, t0, t1, t2, t3, t4, t5]) rfl ⟨rfl, BY.out⟩
       | some xq =>
        obtain ⟨x, q⟩ := xq
        have ci := fun W => intY_r hs hp hg W
        have hdn := hd.trans (dK2_some hg)
        have hq := getI_fits hp hg
        have CI := hid ci; have HDN := hid hdn; have HQF := hid hq; have HXX := hid hX; have HBW := hid hbw
        clear ci hg hdn hq hX hbw hp hd
        go_wp2_with fail
        refine (CI.out _).mono ?_
        rintro e x1 ⟨rfl, b1⟩
        obtain ⟨⟨a0, a1, a2, a3⟩, ⟨f0, f1, f2, f3⟩⟩ := four_facts (HXX.out.below b1)
        have Bx := hid b1
        clear b1
        go_wp2_with fail
        clear a0 a1 a2 a3 f0 f1 f2 f3
        go_roundw
        case rel => exact ⟨(HBW.out.trans (Bx.out.mono (by have := hcz_lt' HXX.out; omega))).setCell (p := ⟨X, 2, none⟩) (Nat.le_refl _) _, .inr (.inr (.inr (.inl (⟨E0, E1, x, q, rfl, rfl, (HXX.out.below Bx.out).put 2 (.int .i64 x), HQF.out, HDN.out⟩))))⟩
        case measure => simp [RowKit.intOf]
     · cases hg : getI s P with
       | none =>
        have ci := fun W => intN_r hs hp hg W
        have hdn := hd.trans (dK3_none hg)
        have hO : O = none := HO.out.symm.trans hdn
        subst hO
        obtain ⟨rfl, rfl, rfl, rfl, rfl, rfl, rfl, rfl⟩ := HALL.out
        have CI := hid ci
        have HBW := hid (below_up B2.out (show Below z2.heap.size z2 wr by rw [HXE.out]; exact hbw))
        clear ci hg hdn hd hX hbw hp
        go_wp2_with fail
        refine (CI.out _).mono ?_
        rintro e x1 ⟨rfl, b1⟩
        have PX := hid (below_up HBW.out b1)
        clear b1
        obtain ⟨y, hy⟩ : ∃ y, ((((((x1.setCell ⟨w.heap.size, 0, none⟩ (.string ⟨#[]⟩)).setCell ⟨w.heap.size, 1, none⟩ (.string ⟨#[]⟩)).setCell ⟨w.heap.size, 2, none⟩ (.int .i64 0)).setCell ⟨w.heap.size, 3, none⟩ (.int .i64 0)).setCell ⟨w.heap.size, 4, none⟩ (.int .i64 0)).setCell ⟨w.heap.size, 5, none⟩ (.int .i64 0)) = y := ⟨_, rfl⟩
        have KY := hid (show CellsAt y w.heap.size [.string ⟨#[]⟩, .string ⟨#[]⟩, .int .i64 0, .int .i64 0, .int .i64 0, .int .i64 0] by rw [← hy]; exact put6 (HC.out x1 PX.out) _ _ _ _ _ _)
        have BY := hid (show Below w.heap.size w y by rw [← hy]; exact low6 (Nat.le_refl _) (below_up B0.out PX.out) _ _ _ _ _ _)
        have HY := hid hy
        obtain ⟨⟨r0, r1, r2, r3, r4, r5⟩, ⟨r6, r7, r8, r9, ra, rb⟩⟩ := six_facts (HC.out x1 PX.out)
        clear hy
        go_wp2_with (rw [HY.out])
        obtain ⟨⟨t0, t1, t2, t3, t4, t5⟩, _⟩ := six_facts KY.out
        exact bodyPost_ret (v := .tuple #[.agg #[.string ⟨#[]⟩, .string ⟨#[]⟩, .int .i64 0, .int .i64 0, .int .i64 0, .int .i64 0], .int .i64 0, .int .i64 50]) (by simp [results, Tryz.results34, go_sem, t0, t1, t2, t3, t4, t5]) rfl ⟨rfl, BY.out⟩
       | some xq =>
        obtain ⟨x, q⟩ := xq
        have ci := fun W => intY_r hs hp hg W
        have hdn := hd.trans (dK3_some hg)
        have hq := getI_fits hp hg
        have CI := hid ci; have HDN := hid hdn; have HQF := hid hq; have HXX := hid hX; have HBW := hid hbw
        clear ci hg hdn hq hX hbw hp hd
        go_wp2_with fail
        refine (CI.out _).mono ?_
        rintro e x1 ⟨rfl, b1⟩
        obtain ⟨⟨a0, a1, a2, a3⟩, ⟨f0, f1, f2, f3⟩⟩ := four_facts (HXX.out.below b1)
        have Bx := hid b1
        clear b1
        go_wp2_with fail
        clear a0 a1 a2 a3 f0 f1 f2 f3
        go_roundw
        case rel => exact ⟨(HBW.out.trans (Bx.out.mono (by have := hcz_lt' HXX.out; omega))).setCell (p := ⟨X, 3, none⟩) (Nat.le_refl _) _, .inr (.inr (.inr (.inr (⟨E0, E1, E2, x, q, rfl, rfl, (HXX.out.below Bx.out).put 3 (.int .i64 x), HQF.out, HDN.out⟩))))⟩
        case measure => simp [RowKit.intOf]
     cases hok : okU VN VD E0 E1 E2 E3 with
     | true =>
      have hO : O = some (VN, VD, E0, E1, E2, E3, P) := HO.out.symm.trans (hd.trans (by unfold dK4; rw [hok]; rfl))
      subst hO
      obtain ⟨rfl, rfl, rfl, rfl, rfl, rfl, rfl, rfl⟩ := HALL.out
      have HBW := hid (below_up B2.out (show Below z2.heap.size z2 wr by rw [HXE.out]; exact hbw))
      have cv := fun W => validUR_any VN VD E0 E1 E2 E3 (by omega) (by omega) W
      rw [hok] at cv
      have CV := hid cv
      obtain ⟨⟨a0, a1, a2, a3⟩, _⟩ := four_facts hX
      obtain ⟨z5, hz5, b5, s5, f5⟩ := lay1 wr (.string VN) [.string VD, .int .i64 E0, .int .i64 E1, .int .i64 E2, .int .i64 E3] 27
      have V5 := hid hz5; have F5 := hid f5; have B5 := hid b5
      clear hz5 f5 b5 s5 cv hbw hX hok hd hp
      go_upto_region 19 with (rw [V5.out])
      clear a0 a1 a2 a3
      obtain ⟨⟨q0, q1, q2, q3, q4, q5⟩, _⟩ := six_facts (F5.out z5 (Below.refl _ _))
      go_wp2_with fail
      refine (CV.out _).mono ?_
      rintro e z6 ⟨rfl, b6⟩
      have P6 := hid (below_up HBW.out (below_up B5.out b6))
      have B6 := hid b6
      clear b6 q0 q1 q2 q3 q4 q5
      obtain ⟨y, hy⟩ : ∃ y, ((((((z6.setCell ⟨w.heap.size, 0, none⟩ (.string VN)).setCell ⟨w.heap.size, 1, none⟩ (.string VD)).setCell ⟨w.heap.size, 2, none⟩ (.int .i64 E0)).setCell ⟨w.heap.size, 3, none⟩ (.int .i64 E1)).setCell ⟨w.heap.size, 4, none⟩ (.int .i64 E2)).setCell ⟨w.heap.size, 5, none⟩ (.int .i64 E3)) = y := ⟨_, rfl⟩
      have KY := hid (show CellsAt y w.heap.size [.string VN, .string VD, .int .i64 E0, .int .i64 E1, .int .i64 E2, .int .i64 E3] by rw [← hy]; exact put6 (HC.out z6 P6.out) _ _ _ _ _ _)
      have BY := hid (show Below w.heap.size w y by rw [← hy]; exact low6 (Nat.le_refl _) (below_up B0.out P6.out) _ _ _ _ _ _)
      have HY := hid hy
      obtain ⟨⟨r0, r1, r2, r3, r4, r5⟩, ⟨r6, r7, r8, r9, ra, rb⟩⟩ := six_facts (HC.out z6 P6.out)
      clear hy
      obtain ⟨⟨q0, q1, q2, q3, q4, q5⟩, _⟩ := six_facts (F5.out z6 B6.out)
      go_wp2_with (rw [HY.out])
      obtain ⟨⟨t0, t1, t2, t3, t4, t5⟩, _⟩ := six_facts KY.out
      exact bodyPost_ret (v := .tuple #[.agg #[.string VN, .string VD, .int .i64 E0, .int .i64 E1, .int .i64 E2, .int .i64 E3], .int .i64 (P : Int), .int .i64 0]) (by simp [results, Tryz.results34, go_sem, t0, t1, t2, t3, t4, t5]) rfl ⟨rfl, BY.out⟩
     | false =>
      have hO : O = none := HO.out.symm.trans (hd.trans (by unfold dK4; rw [hok]; rfl))
      subst hO
      obtain ⟨rfl, rfl, rfl, rfl, rfl, rfl, rfl, rfl⟩ := HALL.out
      have HBW := hid (below_up B2.out (show Below z2.heap.size z2 wr by rw [HXE.out]; exact hbw))
      have cv := fun W => validUR_any VN VD E0 E1 E2 E3 (by omega) (by omega) W
      rw [hok] at cv
      have CV := hid cv
      obtain ⟨⟨a0, a1, a2, a3⟩, _⟩ := four_facts hX
      obtain ⟨z5, hz5, b5, s5, f5⟩ := lay1 wr (.string VN) [.string VD, .int .i64 E0, .int .i64 E1, .int .i64 E2, .int .i64 E3] 27
      have V5 := hid hz5; have F5 := hid f5; have B5 := hid b5
      clear hz5 f5 b5 s5 cv hbw hX hok hd hp
      go_upto_region 19 with (rw [V5.out])
      clear a0 a1 a2 a3
      obtain ⟨⟨q0, q1, q2, q3, q4, q5⟩, _⟩ := six_facts (F5.out z5 (Below.refl _ _))
      go_wp2_with fail
      refine (CV.out _).mono ?_
      rintro e z6 ⟨rfl, b6⟩
      have P6 := hid (below_up HBW.out (below_up B5.out b6))
      have B6 := hid b6
      clear b6 q0 q1 q2 q3 q4 q5
      obtain ⟨y, hy⟩ : ∃ y, ((((((z6.setCell ⟨w.heap.size, 0, none⟩ (.string ⟨#[]⟩)).setCell ⟨w.heap.size, 1, none⟩ (.string ⟨#[]⟩)).setCell ⟨w.heap.size, 2, none⟩ (.int .i64 0)).setCell ⟨w.heap.size, 3, none⟩ (.int .i64 0)).setCell ⟨w.heap.size, 4, none⟩ (.int .i64 0)).setCell ⟨w.heap.size, 5, none⟩ (.int .i64 0)) = y := ⟨_, rfl⟩
      have KY := hid (show CellsAt y w.heap.size [.string ⟨#[]⟩, .string ⟨#[]⟩, .int .i64 0, .int .i64 0, .int .i64 0, .int .i64 0] by rw [← hy]; exact put6 (HC.out z6 P6.out) _ _ _ _ _ _)
      have BY := hid (show Below w.heap.size w y by rw [← hy]; exact low6 (Nat.le_refl _) (below_up B0.out P6.out) _ _ _ _ _ _)
      have HY := hid hy
      obtain ⟨⟨r0, r1, r2, r3, r4, r5⟩, ⟨r6, r7, r8, r9, ra, rb⟩⟩ := six_facts (HC.out z6 P6.out)
      clear hy
      go_wp2_with (rw [HY.out])
      obtain ⟨⟨t0, t1, t2, t3, t4, t5⟩, _⟩ := six_facts KY.out
      exact bodyPost_ret (v := .tuple #[.agg #[.string ⟨#[]⟩, .string ⟨#[]⟩, .int .i64 0, .int .i64 0, .int .i64 0, .int .i64 0], .int .i64 0, .int .i64 50]) (by simp [results, Tryz.results34, go_sem, t0, t1, t2, t3, t4, t5]) rfl ⟨rfl, BY.out⟩
 obtain ⟨e1, e2, e3⟩ := dec_out hin
 rw [e1, e2, e3]
 clear e1 e2 e3
 show Calls _ _ _ _ fun e w' => e = .returned (.tuple #[.agg #[.string ⟨#[]⟩, .string ⟨#[]⟩, .int .i64 0, .int .i64 0, .int .i64 0, .int .i64 0], .int .i64 0, .int .i64 2]) ∧ _
 by_cases h1 : a < 0
 · clear hin
   obtain ⟨y, hy⟩ : ∃ y, ((((((W0.setCell ⟨w.heap.size, 0, none⟩ (.string ⟨#[]⟩)).setCell ⟨w.heap.size, 1, none⟩ (.string ⟨#[]⟩)).setCell ⟨w.heap.size, 2, none⟩ (.int .i64 0)).setCell ⟨w.heap.size, 3, none⟩ (.int .i64 0)).setCell ⟨w.heap.size, 4, none⟩ (.int .i64 0)).setCell ⟨w.heap.size, 5, none⟩ (.int .i64 0)) = y := ⟨_, rfl⟩
   have KY := hid (show CellsAt y w.heap.size [.string ⟨#[]⟩, .string ⟨#[]⟩, .int .i64 0, .int .i64 0, .int .i64 0, .int .i64 0] by rw [← hy]; exact put6 (HC.out W0 (Below.refl _ _)) _ _ _ _ _ _)
   have BY := hid (show Below w.heap.size w y by rw [← hy]; exact low6 (Nat.le_refl _) B0.out _ _ _ _ _ _)
   have HY := hid hy
   obtain ⟨⟨r0, r1, r2, r3, r4, r5⟩, ⟨r6, r7, r8, r9, ra, rb⟩⟩ := six_facts (HC.out W0 (Below.refl _ _))
   clear hy
   go_enter Tryz.func34, Tryz.ntmps34
   go_upto_region 1 with (rw [HW.out])
   go_wp2_with (rw [HY.out])
   obtain ⟨⟨t0, t1, t2, t3, t4, t5⟩, _⟩ := six_facts KY.out
   exact bodyPost_ret (v := .tuple #[.agg #[.string ⟨#[]⟩, .string ⟨#[]⟩, .int .i64 0, .int .i64 0, .int .i64 0, .int .i64 0], .int .i64 0, .int .i64 2]) (by simp [results, Tryz.results34, go_sem, t0, t1, t2, t3, t4, t5]) rfl ⟨rfl, BY.out⟩
 have h1' : 0 ≤ a := by omega
 have h2 : (s.size : Int) < a := by omega
 clear hin
 obtain ⟨y, hy⟩ : ∃ y, ((((((W0.setCell ⟨w.heap.size, 0, none⟩ (.string ⟨#[]⟩)).setCell ⟨w.heap.size, 1, none⟩ (.string ⟨#[]⟩)).setCell ⟨w.heap.size, 2, none⟩ (.int .i64 0)).setCell ⟨w.heap.size, 3, none⟩ (.int .i64 0)).setCell ⟨w.heap.size, 4, none⟩ (.int .i64 0)).setCell ⟨w.heap.size, 5, none⟩ (.int .i64 0)) = y := ⟨_, rfl⟩
 have KY := hid (show CellsAt y w.heap.size [.string ⟨#[]⟩, .string ⟨#[]⟩, .int .i64 0, .int .i64 0, .int .i64 0, .int .i64 0] by rw [← hy]; exact put6 (HC.out W0 (Below.refl _ _)) _ _ _ _ _ _)
 have BY := hid (show Below w.heap.size w y by rw [← hy]; exact low6 (Nat.le_refl _) B0.out _ _ _ _ _ _)
 have HY := hid hy
 obtain ⟨⟨r0, r1, r2, r3, r4, r5⟩, ⟨r6, r7, r8, r9, ra, rb⟩⟩ := six_facts (HC.out W0 (Below.refl _ _))
 clear hy
 go_enter Tryz.func34, Tryz.ntmps34
 go_upto_region 1 with (rw [HW.out])
 go_wp2_with (rw [HY.out])
 obtain ⟨⟨t0, t1, t2, t3, t4, t5⟩, _⟩ := six_facts KY.out
 exact bodyPost_ret (v := .tuple #[.agg #[.string ⟨#[]⟩, .string ⟨#[]⟩, .int .i64 0, .int .i64 0, .int .i64 0, .int .i64 0], .int .i64 0, .int .i64 2]) (by simp [results, Tryz.results34, go_sem, t0, t1, t2, t3, t4, t5]) rfl ⟨rfl, BY.out⟩
theorem print_q5 (q : Qt) (hq : q.short) (w : World) (hR : Set5 w) : Calls Tryz.prog 29 #[.agg #[.string q.n, .string q.d, .int .i64 q.t, .int .i64 q.b, .int .i64 q.m, .int .i64 q.c]] w fun e w' => e = .returned (.string q.text5) ∧ Below w.heap.size w w' :=
 print_u q.n q.d q.t q.b q.m q.c (Nat.le_trans hq.1 (by decide)) (Nat.le_trans hq.2 (by decide)) w hR
theorem printR_q5 (q : Qt) (hq : q.short) (w : World) : Calls Tryz.prog 30 #[.agg #[.string q.n, .string q.d, .int .i64 q.t, .int .i64 q.b, .int .i64 q.m, .int .i64 q.c]] w fun e w' => e = .returned (.string q.text5) ∧ Below w.heap.size w w' :=
 printUR_any q.n q.d q.t q.b q.m q.c (Nat.le_trans hq.1 (by decide)) (Nat.le_trans hq.2 (by decide)) w
theorem encodeR_q5 (q : Qt) (hq : q.short) (w : World) : Calls Tryz.prog 28 #[.agg #[.string q.n, .string q.d, .int .i64 q.t, .int .i64 q.b, .int .i64 q.m, .int .i64 q.c]] w fun e w' => e = .returned (.tuple #[.string q.code5, .int .i64 (eU q.ok)]) ∧ Below w.heap.size w w' :=
 encodeUR_any q.n q.d q.t q.b q.m q.c (Nat.le_trans hq.1 (by decide)) (Nat.le_trans hq.2 (by decide)) w
theorem parseR_q5 (s : ByteArray) (hs : s.size ≤ 1000000) (w : World) : Calls Tryz.prog 32 #[.string s] w fun e w' => e = .returned (.tuple #[.agg #[.string (parQt s).n, .string (parQt s).d, .int .i64 (parQt s).t, .int .i64 (parQt s).b, .int .i64 (parQt s).m, .int .i64 (parQt s).c], .int .i64 (eU (parUB s))]) ∧ Below w.heap.size w w' := by
 have k := parseUR_any s hs w
 have e1 : zT (parUB s) (cutN (fracT s)) = (parQt s).n := (pick_n _ (parQ0 s)).symm
 have e2 : zT (parUB s) (cutD (fracT s)) = (parQt s).d := (pick_d _ (parQ0 s)).symm
 have e3 : zI (parUB s) (expT s).1 = (parQt s).t := (pick_t _ (parQ0 s)).symm
 have e4 : zI (parUB s) (expT s).2.1 = (parQt s).b := (pick_b _ (parQ0 s)).symm
 have e5 : zI (parUB s) (expT s).2.2.1 = (parQt s).m := (pick_m _ (parQ0 s)).symm
 have e6 : zI (parUB s) (expT s).2.2.2.1 = (parQt s).c := (pick_c _ (parQ0 s)).symm
 rw [e1, e2, e3, e4, e5, e6] at k
 exact k
end Go.Proofs.YtcglcgphgahnpaaGreatDoor
