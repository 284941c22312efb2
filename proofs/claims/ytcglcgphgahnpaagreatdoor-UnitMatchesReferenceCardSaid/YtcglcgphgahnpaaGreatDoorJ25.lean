/-
  What Decode answers, plainly; the contracts of reading an integer and a string at an offset, of package wire and of its reference. The contract of package unit's Decode. The contract of the laws' sane: fixed examples.
-/
import Derived.Test.YtcglcgphgahnpaaGreatDoorJ23
import Derived.Test.YtcglcgphgahnpaaGreatDoorJ24
import Derived.Maps.AppendAt
set_option maxRecDepth 100000
set_option maxHeartbeats 16000000
namespace Go.Proofs.YtcglcgphgahnpaaGreatDoor
open Go Go.Proofs Go.RowKit Go.Lib
def dK4 (n d : ByteArray) (t b m c : Int) (p : Nat) : Option (ByteArray × ByteArray × Int × Int × Int × Int × Nat) := if okU n d t b m c then some (n, d, t, b, m, c, p) else none
def dK3 (s n d : ByteArray) (t b m : Int) (p : Nat) : Option (ByteArray × ByteArray × Int × Int × Int × Int × Nat) := match getI s p with
 | none => none
 | some (c, q) => dK4 n d t b m c q
def dK2 (s n d : ByteArray) (t b : Int) (p : Nat) : Option (ByteArray × ByteArray × Int × Int × Int × Int × Nat) := match getI s p with
 | none => none
 | some (m, q) => dK3 s n d t b m q
def dK1 (s n d : ByteArray) (t : Int) (p : Nat) : Option (ByteArray × ByteArray × Int × Int × Int × Int × Nat) := match getI s p with
 | none => none
 | some (b, q) => dK2 s n d t b q
def dK0 (s n d : ByteArray) (p : Nat) : Option (ByteArray × ByteArray × Int × Int × Int × Int × Nat) := match getI s p with
 | none => none
 | some (t, q) => dK1 s n d t q
theorem decU_none {s : ByteArray} {p : Nat} (h : getS s p = none) : decU s p = none := by unfold decU; rw [h]
theorem decU_half {s n : ByteArray} {p q : Nat} (h : getS s p = some (n, q)) (h2 : getS s q = none) : decU s p = none := by unfold decU; rw [h]; simp only [h2]
theorem decU_both {s n d : ByteArray} {p q r : Nat} (h : getS s p = some (n, q)) (h2 : getS s q = some (d, r)) : decU s p = dK0 s n d r := by unfold decU; rw [h]; simp only [h2]; rfl
theorem dK0_none {s n d : ByteArray} {p : Nat} (h : getI s p = none) : dK0 s n d p = none := by unfold dK0; rw [h]
theorem dK0_some {s n d : ByteArray} {p : Nat} {x : Int} {q : Nat} (h : getI s p = some (x, q)) : dK0 s n d p = dK1 s n d x q := by unfold dK0; rw [h]
theorem dK1_none {s n d : ByteArray} {t : Int} {p : Nat} (h : getI s p = none) : dK1 s n d t p = none := by unfold dK1; rw [h]
theorem dK1_some {s n d : ByteArray} {t : Int} {p : Nat} {x : Int} {q : Nat} (h : getI s p = some (x, q)) : dK1 s n d t p = dK2 s n d t x q := by unfold dK1; rw [h]
theorem dK2_none {s n d : ByteArray} {t b : Int} {p : Nat} (h : getI s p = none) : dK2 s n d t b p = none := by unfold dK2; rw [h]
theorem dK2_some {s n d : ByteArray} {t b : Int} {p : Nat} {x : Int} {q : Nat} (h : getI s p = some (x, q)) : dK2 s n d t b p = dK3 s n d t b x q := by unfold dK2; rw [h]
theorem dK3_none {s n d : ByteArray} {t b m : Int} {p : Nat} (h : getI s p = none) : dK3 s n d t b m p = none := by unfold dK3; rw [h]
theorem dK3_some {s n d : ByteArray} {t b m : Int} {p : Nat} {x : Int} {q : Nat} (h : getI s p = some (x, q)) : dK3 s n d t b m p = dK4 n d t b m x q := by unfold dK3; rw [h]
def decO (s : ByteArray) (a : Int) : Option (ByteArray × ByteArray × Int × Int × Int × Int × Nat) := if 0 ≤ a ∧ a ≤ s.size then decU s a.toNat else none
def optQt (x : Option (ByteArray × ByteArray × Int × Int × Int × Int × Nat)) : Qt := match x with
 | none => zeroQt
 | some (n, d, t, b, m, c, _) => ⟨n, d, t, b, m, c⟩
def optP (x : Option (ByteArray × ByteArray × Int × Int × Int × Int × Nat)) : Int := match x with
 | none => 0
 | some (_, _, _, _, _, _, q) => (q : Int)
def optE (x : Option (ByteArray × ByteArray × Int × Int × Int × Int × Nat)) : Int := match x with
 | none => 50
 | some _ => 0
def decQt (s : ByteArray) (a : Int) : Qt := optQt (decO s a)
def decP (s : ByteArray) (a : Int) : Int := optP (decO s a)
def decE (s : ByteArray) (a : Int) : Int := if 0 ≤ a ∧ a ≤ s.size then optE (decO s a) else 2
theorem dec_out {s : ByteArray} {a : Int} (h : ¬ (0 ≤ a ∧ a ≤ s.size)) : decQt s a = zeroQt ∧ decP s a = 0 ∧ decE s a = 2 := by
 unfold decQt decP decE decO
 rw [if_neg h, if_neg h]
 exact ⟨rfl, rfl, rfl⟩
theorem dec_in {s : ByteArray} {p : Nat} (h : p ≤ s.size) : decQt s p = optQt (decU s p) ∧ decP s p = optP (decU s p) ∧ decE s p = optE (decU s p) := by
 have h1 : (0 : Int) ≤ (p : Int) ∧ (p : Int) ≤ s.size := by omega
 unfold decQt decP decE decO
 rw [if_pos h1, if_pos h1, Int.toNat_natCast]
 exact ⟨rfl, rfl, rfl⟩
theorem getI_fits {s : ByteArray} {p : Nat} (hp : p ≤ s.size) {x : Int} {q : Nat} (h : getI s p = some (x, q)) : q ≤ s.size := by
 unfold getI at h
 cases hs : W1.scan 0 0 (fromB s p) with
 | none => rw [hs] at h; cases h
 | some zn =>
  obtain ⟨z, n⟩ := zn
  rw [hs] at h
  injection h with h
  injection h with h1 h2
  rw [← h2]
  exact W1.scan_fits hp hs
theorem scan_getI {s : ByteArray} {p : Nat} {x : Int} {q : Nat} (h : getI s p = some (x, q)) : ∃ z n, W1.scan 0 0 (s.data.toList.drop p) = some (z, n) ∧ W1.unz z = x ∧ p + n = q := by
 unfold getI at h
 cases hs : W1.scan 0 0 (fromB s p) with
 | none => rw [hs] at h; cases h
 | some zn =>
  obtain ⟨z, n⟩ := zn
  rw [hs] at h
  injection h with h
  injection h with h1 h2
  exact ⟨z, n, hs, h1, h2⟩
theorem scan_getI_none {s : ByteArray} {p : Nat} (h : getI s p = none) : W1.scan 0 0 (s.data.toList.drop p) = none := by
 unfold getI at h
 cases hs : W1.scan 0 0 (fromB s p) with
 | none => exact hs
 | some zn =>
  obtain ⟨z, n⟩ := zn
  rw [hs] at h
  cases h
theorem scan_getS {s : ByteArray} {p : Nat} {x : ByteArray} {q : Nat} (h : getS s p = some (x, q)) : ∃ z n m, W1.scan 0 0 (s.data.toList.drop p) = some (z, n) ∧ W1.unz z = ((m : Nat) : Int) ∧ m ≤ 65536 ∧ p + n + m ≤ s.size ∧ s.extract (p + n) (p + n + m) = x ∧ p + n + m = q := by
 unfold getS at h
 cases hs : W1.scan 0 0 (fromB s p) with
 | none => rw [hs] at h; cases h
 | some zn =>
  obtain ⟨z, n⟩ := zn
  rw [hs] at h
  have h' : (if 0 ≤ W1.unz z ∧ W1.unz z ≤ 65536 ∧ p + n + (W1.unz z).toNat ≤ s.size then some (s.extract (p + n) (p + n + (W1.unz z).toNat), p + n + (W1.unz z).toNat) else none) = some (x, q) := h
  split at h'
  · rename_i hc
    obtain ⟨c1, c2, c3⟩ := hc
    injection h' with h'
    injection h' with h1 h2
    exact ⟨z, n, (W1.unz z).toNat, hs, by omega, by omega, c3, h1, h2⟩
  cases h'
theorem scan_getS_none {s : ByteArray} {p : Nat} (h : getS s p = none) : W1.scan 0 0 (s.data.toList.drop p) = none ∨ ∃ z n, W1.scan 0 0 (s.data.toList.drop p) = some (z, n) ∧ (W1.unz z < 0 ∨ 65536 < W1.unz z ∨ (s.size : Int) - ((p : Int) + (n : Int)) < W1.unz z) := by
 unfold getS at h
 cases hs : W1.scan 0 0 (fromB s p) with
 | none => exact .inl hs
 | some zn =>
  obtain ⟨z, n⟩ := zn
  rw [hs] at h
  have h' : (if 0 ≤ W1.unz z ∧ W1.unz z ≤ 65536 ∧ p + n + (W1.unz z).toNat ≤ s.size then some (s.extract (p + n) (p + n + (W1.unz z).toNat), p + n + (W1.unz z).toNat) else none) = none := h
  split at h'
  · cases h'
  rename_i hc
  refine .inr ⟨z, n, hs, ?_⟩
  omega
theorem pair_ret {x : Value} {a b : Int} (h : a = b) : Ending.returned (.tuple #[x, .int .i64 a, .int .i64 0]) = .returned (.tuple #[x, .int .i64 b, .int .i64 0]) := by rw [h]
theorem intY_u {s : ByteArray} (hs : s.size ≤ 1000000) {p : Nat} (hp : p ≤ s.size) {x : Int} {q : Nat} (h : getI s p = some (x, q)) (w : World) : Calls Tryz.prog 77 #[.string s, .int .i64 (p : Nat)] w fun e w' => e = .returned (.tuple #[.int .i64 x, .int .i64 ((q : Nat) : Int), .int .i64 0]) ∧ Below w.heap.size w w' := by
 obtain ⟨z, n, h1, rfl, rfl⟩ := scan_getI h
 exact (W1.int_some s (by show s.size ≤ 9223372036854775807; omega) p hp z n h1 w).mono fun e w' h => ⟨h.1.trans (pair_ret (by omega)), by rw [← h.2]; exact Below.refl _ _⟩
theorem intN_u {s : ByteArray} (hs : s.size ≤ 1000000) {p : Nat} (hp : p ≤ s.size) (h : getI s p = none) (w : World) : Calls Tryz.prog 77 #[.string s, .int .i64 (p : Nat)] w fun e w' => e = .returned (.tuple #[.int .i64 0, .int .i64 0, .int .i64 10]) ∧ Below w.heap.size w w' :=
 (W1.int_none s (by show s.size ≤ 9223372036854775807; omega) p hp (scan_getI_none h) w).mono (fun e w' h => ⟨h.1, by rw [← h.2]; exact Below.refl _ _⟩)
theorem strY_u {s : ByteArray} (hs : s.size ≤ 1000000) {p : Nat} (hp : p ≤ s.size) {x : ByteArray} {q : Nat} (h : getS s p = some (x, q)) (w : World) : Calls Tryz.prog 76 #[.string s, .int .i64 (p : Nat)] w fun e w' => e = .returned (.tuple #[.string x, .int .i64 ((q : Nat) : Int), .int .i64 0]) ∧ Below w.heap.size w w' := by
 obtain ⟨z, n, m, h1, h2, h3, h4, rfl, rfl⟩ := scan_getS h
 exact (W1.string_ok s (by show s.size ≤ 9223372036854775807; omega) p hp z n m h1 h2 h3 h4 w).mono fun e w' h => ⟨h.1.trans (pair_ret (by omega)), h.2⟩
theorem strN_u {s : ByteArray} (hs : s.size ≤ 1000000) {p : Nat} (hp : p ≤ s.size) (h : getS s p = none) (w : World) : Calls Tryz.prog 76 #[.string s, .int .i64 (p : Nat)] w fun e w' => e = .returned (.tuple #[.string ⟨#[]⟩, .int .i64 0, .int .i64 10]) ∧ Below w.heap.size w w' := by
 rcases scan_getS_none h with h1 | ⟨z, n, h1, h2⟩
 · exact (W1.string_none s (by show s.size ≤ 9223372036854775807; omega) p hp h1 w).mono (fun e w' h => ⟨h.1, by rw [← h.2]; exact Below.refl _ _⟩)
 exact (W1.string_bad s (by show s.size ≤ 9223372036854775807; omega) p hp z n h1 h2 w).mono (fun e w' h => ⟨h.1, by rw [← h.2]; exact Below.refl _ _⟩)
theorem cells_allocA {W W' : World} {v : Value} {vs : List Value} {a : Array Value} {t : TypeId} (ha : a = (v :: vs).toArray) (h : Below (W.alloc (.cells a t)).drew.heap.size (W.alloc (.cells a t)).drew W') : CellsAt W' W.heap.size (v :: vs) := by
 subst ha
 exact ((cellsAt_new rfl).drew).below h
theorem cells_allocB {W W' : World} {v : Value} {vs : List Value} {a : Array Value} {t : TypeId} (ha : a = (v :: vs).toArray) (h : Below (W.alloc (.cells a t)).heap.size (W.alloc (.cells a t)) W') : CellsAt W' W.heap.size (v :: vs) := by
 subst ha
 exact (cellsAt_new rfl).below h
theorem cells_allocC {W W' : World} {v : Value} {vs : List Value} {a : Array Value} {t : TypeId} (ha : a = (v :: vs).toArray) (h : Below (W.drew.alloc (.cells a t)).heap.size (W.drew.alloc (.cells a t)) W') : CellsAt W' W.heap.size (v :: vs) := by
 subst ha
 exact (cellsAt_new (W := W.drew) rfl).below h
theorem decode_u (s : ByteArray) (hs : s.size ≤ 1000000) (a : Int) (w : World) (hR : Ready w) : Calls Tryz.prog 33 #[.string s, .int .i64 a] w fun e w' => e = .returned (.tuple #[.agg #[.string (decQt s a).n, .string (decQt s a).d, .int .i64 (decQt s a).t, .int .i64 (decQt s a).b, .int .i64 (decQt s a).m, .int .i64 (decQt s a).c], .int .i64 (decP s a), .int .i64 (decE s a)]) ∧ Below w.heap.size w w' := by
 obtain ⟨W0, hW0, b0, s0, hcc⟩ := lay1 w (.string ⟨#[]⟩) [.string ⟨#[]⟩, .int .i64 0, .int .i64 0, .int .i64 0, .int .i64 0] 27
 have HW := hid hW0; have B0 := hid b0; have HR := hid (hR.below b0); have HC := hid hcc; have S0 := hid s0
 clear hW0 b0 hcc hR s0
 by_cases hin : 0 ≤ a ∧ a ≤ s.size
 · obtain ⟨p, hp⟩ : ∃ p : Nat, a = (p : Int) := ⟨a.toNat, by omega⟩
   subst hp
   have hp : p ≤ s.size := by omega
   obtain ⟨e1, e2, e3⟩ := dec_in hp
   rw [e1, e2, e3]
   clear e1 e2 e3
   obtain ⟨O, hO⟩ : ∃ O, decU s p = O := ⟨_, rfl⟩
   rw [hO]
   have h1 : ¬ (p : Int) < 0 := by omega
   have h2 : ¬ (s.size : Int) < (p : Int) := by omega
   have HO := hid hO
   clear hin hO
   obtain ⟨QN, hQN⟩ : ∃ v, (optQt O).n = v := ⟨_, rfl⟩
   obtain ⟨QD, hQD⟩ : ∃ v, (optQt O).d = v := ⟨_, rfl⟩
   obtain ⟨QT, hQT⟩ : ∃ v, (optQt O).t = v := ⟨_, rfl⟩
   obtain ⟨QB, hQB⟩ : ∃ v, (optQt O).b = v := ⟨_, rfl⟩
   obtain ⟨QM, hQM⟩ : ∃ v, (optQt O).m = v := ⟨_, rfl⟩
   obtain ⟨QC, hQC⟩ : ∃ v, (optQt O).c = v := ⟨_, rfl⟩
   obtain ⟨QP, hQP⟩ : ∃ v, optP O = v := ⟨_, rfl⟩
   obtain ⟨QE, hQE⟩ : ∃ v, optE O = v := ⟨_, rfl⟩
   rw [hQN, hQD, hQT, hQB, hQM, hQC, hQP, hQE]
   have HALL := hid (show (optQt O).n = QN ∧ (optQt O).d = QD ∧ (optQt O).t = QT ∧ (optQt O).b = QB ∧ (optQt O).m = QM ∧ (optQt O).c = QC ∧ optP O = QP ∧ optE O = QE from ⟨hQN, hQD, hQT, hQB, hQM, hQC, hQP, hQE⟩)
   clear hQN hQD hQT hQB hQM hQC hQP hQE
   obtain ⟨W2, hW2, b2, s2, f2⟩ := lay2 W0 (.string ⟨#[]⟩) [.string ⟨#[]⟩] 23 (.int .i64 0) [.int .i64 0, .int .i64 0, .int .i64 0] 28
   have V2 := hid hW2; have B2 := hid b2; have F2 := hid f2
   clear hW2 b2 f2 s2
   go_enter Tryz.func33, Tryz.ntmps33
   go_upto_region 1 with (rw [HW.out])
   go_upto_region 5 with (rw [V2.out])
   clear h1 h2
   go_upto_region 6 with fail
   go_cut [1, 9] from 21 to 28 (fun av er wr => ∃ A1 X1 : Int, av = .int .i64 A1 ∧ er = .int .i64 X1 ∧ Below W0.heap.size W0 wr ∧ ((A1 = 0 ∧ X1 = 10 ∧ CellsAt wr W0.heap.size [.string ⟨#[]⟩, .string ⟨#[]⟩] ∧ CellsAt wr (W0.heap.size + 1) [.int .i64 0, .int .i64 0, .int .i64 0, .int .i64 0] ∧ decU s p = none) ∨ (∃ VN : ByteArray, ∃ P : Nat, A1 = (P : Int) ∧ X1 = 0 ∧ CellsAt wr W0.heap.size [.string VN, .string ⟨#[]⟩] ∧ CellsAt wr (W0.heap.size + 1) [.int .i64 0, .int .i64 0, .int .i64 0, .int .i64 0] ∧ VN.size ≤ 65536 ∧ P ≤ s.size ∧ getS s p = some (VN, P))))
   case first =>
    cases hg : getS s p with
    | none =>
     have cs := fun W => strN_u hs hp hg W
     have CS := hid cs; have HD := hid (decU_none hg)
     clear cs hg
     go_wp2_with fail
     refine (CS.out _).mono ?_
     rintro e z1 ⟨rfl, b1⟩
     obtain ⟨⟨a0, a1⟩, ⟨f0, f1⟩⟩ := two_facts (F2.out z1 b1).1
     have Bz := hid b1
     clear b1
     go_wp2_with fail
     go_meet
     exact ⟨_, _, rfl, rfl, (below_up B2.out Bz.out).setCell (p := ⟨W0.heap.size, 0, none⟩) (Nat.le_refl _) _, .inl ⟨rfl, rfl, (F2.out z1 Bz.out).1.put 0 (.string ⟨#[]⟩), (F2.out z1 Bz.out).2.far (show W0.heap.size ≠ W0.heap.size + 1 by omega), HD.out⟩⟩
    | some nq =>
     obtain ⟨VN, p1⟩ := nq
     have cs := fun W => strY_u hs hp hg W
     have hf := getS_sound hg
     have CS := hid cs; have HN := hid hf.1; have HP1 := hid hf.2.2.1; have HG := hid hg
     clear cs hf
     go_wp2_with fail
     refine (CS.out _).mono ?_
     rintro e z1 ⟨rfl, b1⟩
     obtain ⟨⟨a0, a1⟩, ⟨f0, f1⟩⟩ := two_facts (F2.out z1 b1).1
     have Bz := hid b1
     clear b1
     go_wp2_with fail
     go_meet
     exact ⟨_, _, rfl, rfl, (below_up B2.out Bz.out).setCell (p := ⟨W0.heap.size, 0, none⟩) (Nat.le_refl _) _, .inr ⟨VN, p1, rfl, rfl, (F2.out z1 Bz.out).1.put 0 (.string VN), (F2.out z1 Bz.out).2.far (show W0.heap.size ≠ W0.heap.size + 1 by omega), HN.out, HP1.out, HG.out⟩⟩
   generalize wc = y1 at *
   obtain ⟨A1, X1, rfl, rfl, h1⟩ := hcut
   have H1 := hid h1
   clear h1
   go_upto_if 30 with fail
   go_cut [1, 9] from 31 to 38 (fun av er wr => Below W0.heap.size W0 wr ∧ ((∃ VN VD : ByteArray, av = .int .i64 0 ∧ er = .int .i64 10 ∧ CellsAt wr W0.heap.size [.string VN, .string VD] ∧ CellsAt wr (W0.heap.size + 1) [.int .i64 0, .int .i64 0, .int .i64 0, .int .i64 0] ∧ VN.size ≤ 65536 ∧ VD.size ≤ 65536 ∧ decU s p = none) ∨ (∃ VN VD : ByteArray, ∃ P : Nat, av = .int .i64 (P : Int) ∧ er = .int .i64 0 ∧ CellsAt wr W0.heap.size [.string VN, .string VD] ∧ CellsAt wr (W0.heap.size + 1) [.int .i64 0, .int .i64 0, .int .i64 0, .int .i64 0] ∧ VN.size ≤ 65536 ∧ VD.size ≤ 65536 ∧ P ≤ s.size ∧ decU s p = dK0 s VN VD P)))
   case first =>
    obtain ⟨hb, ⟨rfl, rfl, hV, hX, hd⟩ | ⟨VN, p1, rfl, rfl, hV, hX, hn, hp1, hg⟩⟩ := H1.out
    · have HVV := hid hV; have HXX := hid hX; have HB := hid hb; have HD := hid hd
      clear hV hX hb hd
      go_wp2_with fail
      go_meet
      exact ⟨HB.out, .inl ⟨⟨#[]⟩, ⟨#[]⟩, rfl, rfl, HVV.out, HXX.out, Nat.zero_le _, Nat.zero_le _, HD.out⟩⟩
    have KV := hid hV; have KX := hid hX; have BY1 := hid hb; have HN := hid hn
    clear hV hX hb hn
    cases hg2 : getS s p1 with
    | none =>
     have cs2 := fun W => strN_u hs hp1 hg2 W
     have CS2 := hid cs2; have HD := hid (decU_half hg hg2)
     clear cs2 hg2 hg
     go_wp2_with fail
     refine (CS2.out _).mono ?_
     rintro e z2 ⟨rfl, b2⟩
     obtain ⟨⟨a0, a1⟩, ⟨f0, f1⟩⟩ := two_facts (KV.out.below b2)
     have Bz2 := hid b2
     clear b2
     go_wp2_with fail
     go_meet
     exact ⟨(below_up BY1.out Bz2.out).setCell (p := ⟨W0.heap.size, 1, none⟩) (Nat.le_refl _) _, .inl ⟨VN, ⟨#[]⟩, rfl, rfl, (KV.out.below Bz2.out).put 1 (.string ⟨#[]⟩), (KX.out.below Bz2.out).far (show W0.heap.size ≠ W0.heap.size + 1 by omega), HN.out, Nat.zero_le _, HD.out⟩⟩
    | some dq =>
     obtain ⟨VD, p2⟩ := dq
     have cs2 := fun W => strY_u hs hp1 hg2 W
     have hf := getS_sound hg2
     have CS2 := hid cs2; have HD := hid (decU_both hg hg2)
     have HN2 := hid hf.1; have HP2 := hid hf.2.2.1
     clear cs2 hf hg2 hg
     go_wp2_with fail
     refine (CS2.out _).mono ?_
     rintro e z2 ⟨rfl, b2⟩
     obtain ⟨⟨a0, a1⟩, ⟨f0, f1⟩⟩ := two_facts (KV.out.below b2)
     have Bz2 := hid b2
     clear b2
     go_wp2_with fail
     go_meet
     exact ⟨(below_up BY1.out Bz2.out).setCell (p := ⟨W0.heap.size, 1, none⟩) (Nat.le_refl _) _, .inr ⟨VN, VD, p2, rfl, rfl, (KV.out.below Bz2.out).put 1 (.string VD), (KX.out.below Bz2.out).far (show W0.heap.size ≠ W0.heap.size + 1 by omega), HN.out, HN2.out, HP2.out, HD.out⟩⟩
   clear H1
   go_wp2_with fail
   go_loopw [1, 9, 39] (fun av er i wr => Below W0.heap.size W0 wr ∧ ((∃ VN VD : ByteArray, ∃ E0 E1 E2 E3 : Int, ∃ k : Nat, k ≤ 4 ∧ av = .int .i64 0 ∧ er = .int .i64 10 ∧ i = .int .i64 (k : Int) ∧ CellsAt wr W0.heap.size [.string VN, .string VD] ∧ CellsAt wr (W0.heap.size + 1) [.int .i64 E0, .int .i64 E1, .int .i64 E2, .int .i64 E3] ∧ VN.size ≤ 65536 ∧ VD.size ≤ 65536 ∧ decU s p = none) ∨ (∃ VN VD : ByteArray, ∃ P : Nat, av = .int .i64 (P : Int) ∧ er = .int .i64 0 ∧ i = .int .i64 0 ∧ CellsAt wr W0.heap.size [.string VN, .string VD] ∧ CellsAt wr (W0.heap.size + 1) [.int .i64 0, .int .i64 0, .int .i64 0, .int .i64 0] ∧ VN.size ≤ 65536 ∧ VD.size ≤ 65536 ∧ P ≤ s.size ∧ decU s p = dK0 s VN VD P) ∨ (∃ VN VD : ByteArray, ∃ E0 : Int, ∃ P : Nat, av = .int .i64 (P : Int) ∧ er = .int .i64 0 ∧ i = .int .i64 1 ∧ CellsAt wr W0.heap.size [.string VN, .string VD] ∧ CellsAt wr (W0.heap.size + 1) [.int .i64 E0, .int .i64 0, .int .i64 0, .int .i64 0] ∧ VN.size ≤ 65536 ∧ VD.size ≤ 65536 ∧ P ≤ s.size ∧ decU s p = dK1 s VN VD E0 P) ∨ (∃ VN VD : ByteArray, ∃ E0 E1 : Int, ∃ P : Nat, av = .int .i64 (P : Int) ∧ er = .int .i64 0 ∧ i = .int .i64 2 ∧ CellsAt wr W0.heap.size [.string VN, .string VD] ∧ CellsAt wr (W0.heap.size + 1) [.int .i64 E0, .int .i64 E1, .int .i64 0, .int .i64 0] ∧ VN.size ≤ 65536 ∧ VD.size ≤ 65536 ∧ P ≤ s.size ∧ decU s p = dK2 s VN VD E0 E1 P) ∨ (∃ VN VD : ByteArray, ∃ E0 E1 E2 : Int, ∃ P : Nat, av = .int .i64 (P : Int) ∧ er = .int .i64 0 ∧ i = .int .i64 3 ∧ CellsAt wr W0.heap.size [.string VN, .string VD] ∧ CellsAt wr (W0.heap.size + 1) [.int .i64 E0, .int .i64 E1, .int .i64 E2, .int .i64 0] ∧ VN.size ≤ 65536 ∧ VD.size ≤ 65536 ∧ P ≤ s.size ∧ decU s p = dK3 s VN VD E0 E1 E2 P) ∨ (∃ VN VD : ByteArray, ∃ E0 E1 E2 E3 : Int, ∃ P : Nat, av = .int .i64 (P : Int) ∧ er = .int .i64 0 ∧ i = .int .i64 4 ∧ CellsAt wr W0.heap.size [.string VN, .string VD] ∧ CellsAt wr (W0.heap.size + 1) [.int .i64 E0, .int .i64 E1, .int .i64 E2, .int .i64 E3] ∧ VN.size ≤ 65536 ∧ VD.size ≤ 65536 ∧ P ≤ s.size ∧ decU s p = dK4 VN VD E0 E1 E2 E3 P))) (fun _ _ i _ => 4 - (RowKit.intOf i).toNat)
   case atStart =>
    obtain ⟨hb, ⟨VN, VD, h1, h2, h3, h4, h5, h6, h7⟩ | ⟨VN, VD, P, h1, h2, h3, h4, h5, h6, h7, h8⟩⟩ := hcut
    · exact ⟨hb, .inl ⟨VN, VD, 0, 0, 0, 0, 0, by omega, h1, h2, rfl, h3, h4, h5, h6, h7⟩⟩
    exact ⟨hb, .inr (.inl ⟨VN, VD, P, h1, h2, rfl, h3, h4, h5, h6, h7, h8⟩)⟩
   clear hcut
   obtain ⟨hbw, ⟨VN, VD, E0, E1, E2, E3, k, hk, rfl, rfl, rfl, hV, hX, hv1, hv2, hd⟩ | ⟨VN, VD, P, rfl, rfl, rfl, hV, hX, hv1, hv2, hp, hd⟩ | ⟨VN, VD, E0, P, rfl, rfl, rfl, hV, hX, hv1, hv2, hp, hd⟩ | ⟨VN, VD, E0, E1, P, rfl, rfl, rfl, hV, hX, hv1, hv2, hp, hd⟩ | ⟨VN, VD, E0, E1, E2, P, rfl, rfl, rfl, hV, hX, hv1, hv2, hp, hd⟩ | ⟨VN, VD, E0, E1, E2, E3, P, rfl, rfl, rfl, hV, hX, hv1, hv2, hp, hd⟩⟩ := hrel
   · by_cases hk4 : k < 4
     · have HVV := hid hV; have HXX := hid hX; have HBW := hid hbw; have HD := hid hd; have HV1 := hid hv1; have HV2 := hid hv2
       have hki : (k : Int) < 4 := by omega
       clear hV hX hbw hd hv1 hv2
       go_wp2_with fail
       go_roundw
       case rel => exact ⟨HBW.out, .inl ⟨VN, VD, E0, E1, E2, E3, k + 1, by omega, rfl, rfl, by go_num, HVV.out, HXX.out, HV1.out, HV2.out, HD.out⟩⟩
       case measure => simp [RowKit.intOf]; omega
     have hk5 : k = 4 := by omega
     subst hk5
     have hO : O = none := HO.out.symm.trans hd
     subst hO
     obtain ⟨rfl, rfl, rfl, rfl, rfl, rfl, rfl, rfl⟩ := HALL.out
     clear hk hk4
     have cu := fun W => unitOf_u E0 E1 E2 E3 W
     have ck : ∀ W, Ready W → Calls Tryz.prog 43 #[.agg #[.string VN, .string VD], .agg #[.int .i64 E0, .int .i64 E1, .int .i64 E2, .int .i64 E3], .int .i64 10] W fun e w' => e = .returned (.tuple #[.agg #[.string ⟨#[]⟩, .string ⟨#[]⟩, .int .i64 0, .int .i64 0, .int .i64 0, .int .i64 0], .int .i64 50]) ∧ Below W.heap.size W w' := fun W h => checked_u VN VD E0 E1 E2 E3 10 (by omega) (by omega) W h
     have HRz := hid (HR.out.below hbw)
     have KS := hid (show ∀ W, Below wr.heap.size wr W → ((W.cell? ⟨W0.heap.size, 0, none⟩ = some (.string VN) ∧ W.cell? ⟨W0.heap.size, 1, none⟩ = some (.string VD)) ∧ (W.cell? ⟨W0.heap.size + 1, 0, none⟩ = some (.int .i64 E0) ∧ W.cell? ⟨W0.heap.size + 1, 1, none⟩ = some (.int .i64 E1) ∧ W.cell? ⟨W0.heap.size + 1, 2, none⟩ = some (.int .i64 E2) ∧ W.cell? ⟨W0.heap.size + 1, 3, none⟩ = some (.int .i64 E3))) from fun W b => ⟨(two_facts (hV.below b)).1, (four_facts (hX.below b)).1⟩)
     have CU := hid cu; have CK := hid ck; have HBW := hid hbw
     clear cu ck hV hX hbw hv1 hv2 hd
     have HQ := hid (HC.out wr HBW.out)
     have g0 := Below.refl wr.heap.size wr
     go_upto_region 15 with fail
     go_cut [9, 11] from 54 to 61 (fun se sp wx => se = .int .i64 50 ∧ ∃ A : Nat, sp = .pointer (some ⟨A, 0, none⟩) ∧ Hid (CellsAt wx A [.string ⟨#[]⟩, .string ⟨#[]⟩, .int .i64 0, .int .i64 0, .int .i64 0, .int .i64 0]) ∧ Hid (Below wr.heap.size wr wx))
     case first =>
      go_region_held3 (fun W => (W.cell? ⟨W0.heap.size, 0, none⟩ = some (.string VN) ∧ W.cell? ⟨W0.heap.size, 1, none⟩ = some (.string VD)) ∧ (W.cell? ⟨W0.heap.size + 1, 0, none⟩ = some (.int .i64 E0) ∧ W.cell? ⟨W0.heap.size + 1, 1, none⟩ = some (.int .i64 E1) ∧ W.cell? ⟨W0.heap.size + 1, 2, none⟩ = some (.int .i64 E2) ∧ W.cell? ⟨W0.heap.size + 1, 3, none⟩ = some (.int .i64 E3))) (first | with_reducible exact KS.out _ g2 | with_reducible exact KS.out _ (g2.alloc g2.size _) | with_reducible exact KS.out _ (low6 (Nat.le_refl _) g2 _ _ _ _ _ _) | with_reducible exact KS.out _ (low6 g1.size g2 _ _ _ _ _ _) | with_reducible exact KS.out _ g1 | with_reducible exact KS.out _ (g1.alloc g1.size _) | with_reducible exact KS.out _ g0 | with_reducible exact KS.out _ g0.drew | with_reducible exact KS.out _ (g0.alloc (Nat.le_refl _) _) | with_reducible exact KS.out _ (g0.alloc (Nat.le_refl _) _).drew | with_reducible exact KS.out _ (g0.drew.alloc (Nat.le_refl _) _)) (first | (go_at_call 73; (with_reducible refine (CU.out _).mono ?_); (rintro e y1 ⟨rfl, k1⟩); (have g1 : Below wr.heap.size wr y1 := below_up (by first | with_reducible exact g0 | with_reducible exact g0.drew | with_reducible exact g0.alloc (Nat.le_refl _) _ | with_reducible exact (g0.alloc (Nat.le_refl _) _).drew | with_reducible exact g0.drew.alloc (Nat.le_refl _) _) k1); (first | (have e1 : CellsAt y1 wr.heap.size [.string ⟨#[]⟩, .string ⟨#[]⟩, .int .i64 0, .int .i64 0, .int .i64 0, .int .i64 0] := (by with_reducible exact cells_allocA rfl k1)) | (have e1 : CellsAt y1 wr.heap.size [.string ⟨#[]⟩, .string ⟨#[]⟩, .int .i64 0, .int .i64 0, .int .i64 0, .int .i64 0] := (by with_reducible exact cells_allocB rfl k1)) | (have e1 : CellsAt y1 wr.heap.size [.string ⟨#[]⟩, .string ⟨#[]⟩, .int .i64 0, .int .i64 0, .int .i64 0, .int .i64 0] := (by with_reducible exact cells_allocC rfl k1)) | skip)) | (go_at_call 43; (with_reducible refine (CK.out _ ?_).mono ?_); (first | with_reducible exact HRz.out.below g1 | with_reducible exact HRz.out.below (g1.alloc g1.size _)); (rintro e y2 ⟨rfl, k2⟩); (have g2 : Below wr.heap.size wr y2 := below_up (by first | with_reducible exact g1 | with_reducible exact g1.alloc g1.size _ | with_reducible exact g1.drew) k2); (first | ((have e2 := CellsAt.below e1 k2); (obtain ⟨⟨r0, r1, r2, r3, r4, r5⟩, ⟨r6, r7, r8, r9, ra, rb⟩⟩ := six_facts e2)) | ((have e2 : CellsAt y2 y1.heap.size [.string ⟨#[]⟩, .string ⟨#[]⟩, .int .i64 0, .int .i64 0, .int .i64 0, .int .i64 0] := (by with_reducible exact cells_allocB rfl k2)); (obtain ⟨⟨r0, r1, r2, r3, r4, r5⟩, ⟨r6, r7, r8, r9, ra, rb⟩⟩ := six_facts e2)) | skip)))
      all_goals (go_wp2_with fail; go_meet; exact ⟨rfl, _, rfl, hid (by first | with_reducible exact put6 e2 _ _ _ _ _ _ | with_reducible exact cellsAt_new rfl | exact cellsAt_new rfl), hid (by first | with_reducible exact low6 (Nat.le_refl _) g2 _ _ _ _ _ _ | with_reducible exact low6 g1.size g2 _ _ _ _ _ _ | with_reducible exact g2.alloc g2.size _ | exact g2.alloc g2.size _)⟩)
     clear g0
     obtain ⟨rfl, AQ, rfl, hq, hbx⟩ := hcut
     generalize wc = z9 at *
     have F9 := hq
     have P9 := hid (below_up HBW.out hbx.out)
     clear hq hbx
     obtain ⟨⟨s0, s1, s2, s3, s4, s5⟩, _⟩ := six_facts F9.out
     obtain ⟨y, hy⟩ : ∃ y, ((((((z9.setCell ⟨w.heap.size, 0, none⟩ (.string ⟨#[]⟩)).setCell ⟨w.heap.size, 1, none⟩ (.string ⟨#[]⟩)).setCell ⟨w.heap.size, 2, none⟩ (.int .i64 0)).setCell ⟨w.heap.size, 3, none⟩ (.int .i64 0)).setCell ⟨w.heap.size, 4, none⟩ (.int .i64 0)).setCell ⟨w.heap.size, 5, none⟩ (.int .i64 0)) = y := ⟨_, rfl⟩
     have KY := hid (show CellsAt y w.heap.size [.string ⟨#[]⟩, .string ⟨#[]⟩, .int .i64 0, .int .i64 0, .int .i64 0, .int .i64 0] by rw [← hy]; exact put6 (HC.out z9 P9.out) _ _ _ _ _ _)
     have BY := hid (show Below w.heap.size w y by rw [← hy]; exact low6 (Nat.le_refl _) (below_up B0.out P9.out) _ _ _ _ _ _)
     have HY := hid hy
     obtain ⟨⟨r0, r1, r2, r3, r4, r5⟩, ⟨r6, r7, r8, r9, ra, rb⟩⟩ := six_facts (HC.out z9 P9.out)
     clear hy
     go_wp2_with (rw [HY.out])
     obtain ⟨⟨t0, t1, t2, t3, t4, t5⟩, _⟩ := six_facts KY.out
     exact bodyPost_ret (v := .tuple #[.agg #[.string ⟨#[]⟩, .string ⟨#[]⟩, .int .i64 0, .int .i64 0, .int .i64 0, .int .i64 0], .int .i64 0, .int .i64 50]) (by simp [results, Tryz.results33, go_sem, t0, t1, t2, t3, t4, t5]) rfl ⟨rfl, BY.out⟩
   · cases hg : getI s P with
     | none =>
      have ci := fun W => intN_u hs hp hg W
      have hdn := hd.trans (dK0_none hg)
      have CI := hid ci; have HDN := hid hdn
      clear ci hg hdn
      have HVV := hid hV; have HXX := hid hX; have HBW := hid hbw; have HD := hid hd; have HV1 := hid hv1; have HV2 := hid hv2; have HP := hid hp
      clear hV hX hbw hd hv1 hv2 hp
      go_wp2_with fail
      refine (CI.out _).mono ?_
      rintro e x1 ⟨rfl, b1⟩
      obtain ⟨⟨a0, a1, a2, a3⟩, ⟨f0, f1, f2, f3⟩⟩ := four_facts (HXX.out.below b1)
      have Bx := hid b1
      clear b1
      go_wp2_with fail
      clear a0 a1 a2 a3 f0 f1 f2 f3
      go_roundw
      case rel => exact ⟨(below_up HBW.out Bx.out).setCell (p := ⟨(W0.heap.size + 1), 0, none⟩) (show W0.heap.size ≤ W0.heap.size + 1 by omega) _, .inl (⟨VN, VD, 0, 0, 0, 0, 1, by omega, rfl, rfl, rfl, (HVV.out.below Bx.out).far (show W0.heap.size + 1 ≠ W0.heap.size by omega), (HXX.out.below Bx.out).put 0 (.int .i64 0), HV1.out, HV2.out, HDN.out⟩)⟩
      case measure => simp [RowKit.intOf]
     | some xq =>
      obtain ⟨x, q⟩ := xq
      have ci := fun W => intY_u hs hp hg W
      have hdn := hd.trans (dK0_some hg)
      have hq := getI_fits hp hg
      have CI := hid ci; have HDN := hid hdn; have HQF := hid hq
      clear ci hg hdn hq
      have HVV := hid hV; have HXX := hid hX; have HBW := hid hbw; have HD := hid hd; have HV1 := hid hv1; have HV2 := hid hv2; have HP := hid hp
      clear hV hX hbw hd hv1 hv2 hp
      go_wp2_with fail
      refine (CI.out _).mono ?_
      rintro e x1 ⟨rfl, b1⟩
      obtain ⟨⟨a0, a1, a2, a3⟩, ⟨f0, f1, f2, f3⟩⟩ := four_facts (HXX.out.below b1)
      have Bx := hid b1
      clear b1
      go_wp2_with fail
      clear a0 a1 a2 a3 f0 f1 f2 f3
      go_roundw
      case rel => exact ⟨(below_up HBW.out Bx.out).setCell (p := ⟨(W0.heap.size + 1), 0, none⟩) (show W0.heap.size ≤ W0.heap.size + 1 by omega) _, .inr (.inr (.inl (⟨VN, VD, x, q, rfl, rfl, rfl, (HVV.out.below Bx.out).far (show W0.heap.size + 1 ≠ W0.heap.size by omega), (HXX.out.below Bx.out).put 0 (.int .i64 x), HV1.out, HV2.out, HQF.out, HDN.out⟩)))⟩
      case measure => simp [RowKit.intOf]
   · cases hg : getI s P with
     | none =>
      have ci := fun W => intN_u hs hp hg W
      have hdn := hd.trans (dK1_none hg)
      have CI := hid ci; have HDN := hid hdn
      clear ci hg hdn
      have HVV := hid hV; have HXX := hid hX; have HBW := hid hbw; have HD := hid hd; have HV1 := hid hv1; have HV2 := hid hv2; have HP := hid hp
      clear hV hX hbw hd hv1 hv2 hp
      go_wp2_with fail
      refine (CI.out _).mono ?_
      rintro e x1 ⟨rfl, b1⟩
      obtain ⟨⟨a0, a1, a2, a3⟩, ⟨f0, f1, f2, f3⟩⟩ := four_facts (HXX.out.below b1)
      have Bx := hid b1
      clear b1
      go_wp2_with fail
      clear a0 a1 a2 a3 f0 f1 f2 f3
      go_roundw
      case rel => exact ⟨(below_up HBW.out Bx.out).setCell (p := ⟨(W0.heap.size + 1), 1, none⟩) (show W0.heap.size ≤ W0.heap.size + 1 by omega) _, .inl (⟨VN, VD, E0, 0, 0, 0, 2, by omega, rfl, rfl, rfl, (HVV.out.below Bx.out).far (show W0.heap.size + 1 ≠ W0.heap.size by omega), (HXX.out.below Bx.out).put 1 (.int .i64 0), HV1.out, HV2.out, HDN.out⟩)⟩
      case measure => simp [RowKit.intOf]
     | some xq =>
      obtain ⟨x, q⟩ := xq
      have ci := fun W => intY_u hs hp hg W
      have hdn := hd.trans (dK1_some hg)
      have hq := getI_fits hp hg
      have CI := hid ci; have HDN := hid hdn; have HQF := hid hq
      clear ci hg hdn hq
      have HVV := hid hV; have HXX := hid hX; have HBW := hid hbw; have HD := hid hd; have HV1 := hid hv1; have HV2 := hid hv2; have HP := hid hp
      clear hV hX hbw hd hv1 hv2 hp
      go_wp2_with fail
      refine (CI.out _).mono ?_
      rintro e x1 ⟨rfl, b1⟩
      obtain ⟨⟨a0, a1, a2, a3⟩, ⟨f0, f1, f2, f3⟩⟩ := four_facts (HXX.out.below b1)
      have Bx := hid b1
      clear b1
      go_wp2_with fail
      clear a0 a1 a2 a3 f0 f1 f2 f3
      go_roundw
      case rel => exact ⟨(below_up HBW.out Bx.out).setCell (p := ⟨(W0.heap.size + 1), 1, none⟩) (show W0.heap.size ≤ W0.heap.size + 1 by omega) _, .inr (.inr (.inr (.inl (⟨VN, VD, E0, x, q, rfl, rfl, rfl, (HVV.out.below Bx.out).far (show W0.heap.size + 1 ≠ W0.heap.size by omega), (HXX.out.below Bx.out).put 1 (.int .i64 x), HV1.out, HV2.out, HQF.out, HDN.out⟩))))⟩
      case measure => simp [RowKit.intOf]
   · cases hg : getI s P with
     | none =>
      have ci := fun W => intN_u hs hp hg W
      have hdn := hd.trans (dK2_none hg)
      have CI := hid ci; have HDN := hid hdn
      clear ci hg hdn
      have HVV := hid hV; have HXX := hid hX; have HBW := hid hbw; have HD := hid hd; have HV1 := hid hv1; have HV2 := hid hv2; have HP := hid hp
      clear hV hX hbw hd hv1 hv2 hp
      go_wp2_with fail
      refine (CI.out _).mono ?_
      rintro e x1 ⟨rfl, b1⟩
      obtain ⟨⟨a0, a1, a2, a3⟩, ⟨f0, f1, f2, f3⟩⟩ := four_facts (HXX.out.below b1)
      have Bx := hid b1
      clear b1
      go_wp2_with fail
      clear a0 a1 a2 a3 f0 f1 f2 f3
      go_roundw
      case rel => exact ⟨(below_up HBW.out Bx.out).setCell (p := ⟨(W0.heap.size + 1), 2, none⟩) (show W0.heap.size ≤ W0.heap.size + 1 by omega) _, .inl (⟨VN, VD, E0, E1, 0, 0, 3, by omega, rfl, rfl, rfl, (HVV.out.below Bx.out).far (show W0.heap.size + 1 ≠ W0.heap.size by omega), (HXX.out.below Bx.out).put 2 (.int .i64 0), HV1.out, HV2.out, HDN.out⟩)⟩
      case measure => simp [RowKit.intOf]
     | some xq =>
      obtain ⟨x, q⟩ := xq
      have ci := fun W => intY_u hs hp hg W
      have hdn := hd.trans (dK2_some hg)
      have hq := getI_fits hp hg
      have CI := hid ci; have HDN := hid hdn; have HQF := hid hq
      clear ci hg hdn hq
      have HVV := hid hV; have HXX := hid hX; have HBW := hid hbw; have HD := hid hd; have HV1 := hid hv1; have HV2 := hid hv2; have HP := hid hp
      clear hV hX hbw hd hv1 hv2 hp
      go_wp2_with fail
      refine (CI.out _).mono ?_
      rintro e x1 ⟨rfl, b1⟩
      obtain ⟨⟨a0, a1, a2, a3⟩, ⟨f0, f1, f2, f3⟩⟩ := four_facts (HXX.out.below b1)
      have Bx := hid b1
      clear b1
      go_wp2_with fail
      clear a0 a1 a2 a3 f0 f1 f2 f3
      go_roundw
      case rel => exact ⟨(below_up HBW.out Bx.out).setCell (p := ⟨(W0.heap.size + 1), 2, none⟩) (show W0.heap.size ≤ W0.heap.size + 1 by omega) _, .inr (.inr (.inr (.inr (.inl (⟨VN, VD, E0, E1, x, q, rfl, rfl, rfl, (HVV.out.below Bx.out).far (show W0.heap.size + 1 ≠ W0.heap.size by omega), (HXX.out.below Bx.out).put 2 (.int .i64 x), HV1.out, HV2.out, HQF.out, HDN.out⟩)))))⟩
      case measure => simp [RowKit.intOf]
   · cases hg : getI s P with
     | none =>
      have ci := fun W => intN_u hs hp hg W
      have hdn := hd.trans (dK3_none hg)
      have CI := hid ci; have HDN := hid hdn
      clear ci hg hdn
      have HVV := hid hV; have HXX := hid hX; have HBW := hid hbw; have HD := hid hd; have HV1 := hid hv1; have HV2 := hid hv2; have HP := hid hp
      clear hV hX hbw hd hv1 hv2 hp
      go_wp2_with fail
      refine (CI.out _).mono ?_
      rintro e x1 ⟨rfl, b1⟩
      obtain ⟨⟨a0, a1, a2, a3⟩, ⟨f0, f1, f2, f3⟩⟩ := four_facts (HXX.out.below b1)
      have Bx := hid b1
      clear b1
      go_wp2_with fail
      clear a0 a1 a2 a3 f0 f1 f2 f3
      go_roundw
      case rel => exact ⟨(below_up HBW.out Bx.out).setCell (p := ⟨(W0.heap.size + 1), 3, none⟩) (show W0.heap.size ≤ W0.heap.size + 1 by omega) _, .inl (⟨VN, VD, E0, E1, E2, 0, 4, by omega, rfl, rfl, rfl, (HVV.out.below Bx.out).far (show W0.heap.size + 1 ≠ W0.heap.size by omega), (HXX.out.below Bx.out).put 3 (.int .i64 0), HV1.out, HV2.out, HDN.out⟩)⟩
      case measure => simp [RowKit.intOf]
     | some xq =>
      obtain ⟨x, q⟩ := xq
      have ci := fun W => intY_u hs hp hg W
      have hdn := hd.trans (dK3_some hg)
      have hq := getI_fits hp hg
      have CI := hid ci; have HDN := hid hdn; have HQF := hid hq
      clear ci hg hdn hq
      have HVV := hid hV; have HXX := hid hX; have HBW := hid hbw; have HD := hid hd; have HV1 := hid hv1; have HV2 := hid hv2; have HP := hid hp
      clear hV hX hbw hd hv1 hv2 hp
      go_wp2_with fail
      refine (CI.out _).mono ?_
      rintro e x1 ⟨rfl, b1⟩
      obtain ⟨⟨a0, a1, a2, a3⟩, ⟨f0, f1, f2, f3⟩⟩ := four_facts (HXX.out.below b1)
      have Bx := hid b1
      clear b1
      go_wp2_with fail
      clear a0 a1 a2 a3 f0 f1 f2 f3
      go_roundw
      case rel => exact ⟨(below_up HBW.out Bx.out).setCell (p := ⟨(W0.heap.size + 1), 3, none⟩) (show W0.heap.size ≤ W0.heap.size + 1 by omega) _, .inr (.inr (.inr (.inr (.inr (⟨VN, VD, E0, E1, E2, x, q, rfl, rfl, rfl, (HVV.out.below Bx.out).far (show W0.heap.size + 1 ≠ W0.heap.size by omega), (HXX.out.below Bx.out).put 3 (.int .i64 x), HV1.out, HV2.out, HQF.out, HDN.out⟩)))))⟩
      case measure => simp [RowKit.intOf]
   cases hok : okU VN VD E0 E1 E2 E3 with
   | true =>
    have hO : O = some (VN, VD, E0, E1, E2, E3, P) := HO.out.symm.trans (hd.trans (by unfold dK4; rw [hok]; rfl))
    subst hO
    obtain ⟨rfl, rfl, rfl, rfl, rfl, rfl, rfl, rfl⟩ := HALL.out
    have cu := fun W => unitOf_u E0 E1 E2 E3 W
    have ck : ∀ W, Ready W → Calls Tryz.prog 43 #[.agg #[.string VN, .string VD], .agg #[.int .i64 E0, .int .i64 E1, .int .i64 E2, .int .i64 E3], .int .i64 0] W fun e w' => e = .returned (.tuple #[.agg #[.string VN, .string VD, .int .i64 E0, .int .i64 E1, .int .i64 E2, .int .i64 E3], .int .i64 0]) ∧ Below W.heap.size W w' := fun W h => by have k := checked_u VN VD E0 E1 E2 E3 0 (by omega) (by omega) W h; rw [hok] at k; exact k
    have HRz := hid (HR.out.below hbw)
    have KS := hid (show ∀ W, Below wr.heap.size wr W → ((W.cell? ⟨W0.heap.size, 0, none⟩ = some (.string VN) ∧ W.cell? ⟨W0.heap.size, 1, none⟩ = some (.string VD)) ∧ (W.cell? ⟨W0.heap.size + 1, 0, none⟩ = some (.int .i64 E0) ∧ W.cell? ⟨W0.heap.size + 1, 1, none⟩ = some (.int .i64 E1) ∧ W.cell? ⟨W0.heap.size + 1, 2, none⟩ = some (.int .i64 E2) ∧ W.cell? ⟨W0.heap.size + 1, 3, none⟩ = some (.int .i64 E3))) from fun W b => ⟨(two_facts (hV.below b)).1, (four_facts (hX.below b)).1⟩)
    have CU := hid cu; have CK := hid ck; have HBW := hid hbw
    clear cu ck hV hX hbw hv1 hv2 hd hp hok
    have HQ := hid (HC.out wr HBW.out)
    have g0 := Below.refl wr.heap.size wr
    go_upto_region 15 with fail
    go_cut [9, 11] from 54 to 61 (fun se sp wx => se = .int .i64 0 ∧ ∃ A : Nat, sp = .pointer (some ⟨A, 0, none⟩) ∧ Hid (CellsAt wx A [.string VN, .string VD, .int .i64 E0, .int .i64 E1, .int .i64 E2, .int .i64 E3]) ∧ Hid (Below wr.heap.size wr wx))
    case first =>
     go_region_held3 (fun W => (W.cell? ⟨W0.heap.size, 0, none⟩ = some (.string VN) ∧ W.cell? ⟨W0.heap.size, 1, none⟩ = some (.string VD)) ∧ (W.cell? ⟨W0.heap.size + 1, 0, none⟩ = some (.int .i64 E0) ∧ W.cell? ⟨W0.heap.size + 1, 1, none⟩ = some (.int .i64 E1) ∧ W.cell? ⟨W0.heap.size + 1, 2, none⟩ = some (.int .i64 E2) ∧ W.cell? ⟨W0.heap.size + 1, 3, none⟩ = some (.int .i64 E3))) (first | with_reducible exact KS.out _ g2 | with_reducible exact KS.out _ (g2.alloc g2.size _) | with_reducible exact KS.out _ (low6 (Nat.le_refl _) g2 _ _ _ _ _ _) | with_reducible exact KS.out _ (low6 g1.size g2 _ _ _ _ _ _) | with_reducible exact KS.out _ g1 | with_reducible exact KS.out _ (g1.alloc g1.size _) | with_reducible exact KS.out _ g0 | with_reducible exact KS.out _ g0.drew | with_reducible exact KS.out _ (g0.alloc (Nat.le_refl _) _) | with_reducible exact KS.out _ (g0.alloc (Nat.le_refl _) _).drew | with_reducible exact KS.out _ (g0.drew.alloc (Nat.le_refl _) _)) (first | (go_at_call 73; (with_reducible refine (CU.out _).mono ?_); (rintro e y1 ⟨rfl, k1⟩); (have g1 : Below wr.heap.size wr y1 := below_up (by first | with_reducible exact g0 | with_reducible exact g0.drew | with_reducible exact g0.alloc (Nat.le_refl _) _ | with_reducible exact (g0.alloc (Nat.le_refl _) _).drew | with_reducible exact g0.drew.alloc (Nat.le_refl _) _) k1); (first | (have e1 : CellsAt y1 wr.heap.size [.string ⟨#[]⟩, .string ⟨#[]⟩, .int .i64 0, .int .i64 0, .int .i64 0, .int .i64 0] := (by with_reducible exact cells_allocA rfl k1)) | (have e1 : CellsAt y1 wr.heap.size [.string ⟨#[]⟩, .string ⟨#[]⟩, .int .i64 0, .int .i64 0, .int .i64 0, .int .i64 0] := (by with_reducible exact cells_allocB rfl k1)) | (have e1 : CellsAt y1 wr.heap.size [.string ⟨#[]⟩, .string ⟨#[]⟩, .int .i64 0, .int .i64 0, .int .i64 0, .int .i64 0] := (by with_reducible exact cells_allocC rfl k1)) | skip)) | (go_at_call 43; (with_reducible refine (CK.out _ ?_).mono ?_); (first | with_reducible exact HRz.out.below g1 | with_reducible exact HRz.out.below (g1.alloc g1.size _)); (rintro e y2 ⟨rfl, k2⟩); (have g2 : Below wr.heap.size wr y2 := below_up (by first | with_reducible exact g1 | with_reducible exact g1.alloc g1.size _ | with_reducible exact g1.drew) k2); (first | ((have e2 := CellsAt.below e1 k2); (obtain ⟨⟨r0, r1, r2, r3, r4, r5⟩, ⟨r6, r7, r8, r9, ra, rb⟩⟩ := six_facts e2)) | ((have e2 : CellsAt y2 y1.heap.size [.string ⟨#[]⟩, .string ⟨#[]⟩, .int .i64 0, .int .i64 0, .int .i64 0, .int .i64 0] := (by with_reducible exact cells_allocB rfl k2)); (obtain ⟨⟨r0, r1, r2, r3, r4, r5⟩, ⟨r6, r7, r8, r9, ra, rb⟩⟩ := six_facts e2)) | skip)))
     all_goals (go_wp2_with fail; go_meet; exact ⟨rfl, _, rfl, hid (by first | with_reducible exact put6 e2 _ _ _ _ _ _ | with_reducible exact cellsAt_new rfl | exact cellsAt_new rfl), hid (by first | with_reducible exact low6 (Nat.le_refl _) g2 _ _ _ _ _ _ | with_reducible exact low6 g1.size g2 _ _ _ _ _ _ | with_reducible exact g2.alloc g2.size _ | exact g2.alloc g2.size _)⟩)
    clear g0
    obtain ⟨rfl, AQ, rfl, hq, hbx⟩ := hcut
    generalize wc = z9 at *
    have F9 := hq
    have P9 := hid (below_up HBW.out hbx.out)
    clear hq hbx
    obtain ⟨⟨s0, s1, s2, s3, s4, s5⟩, _⟩ := six_facts F9.out
    obtain ⟨y, hy⟩ : ∃ y, ((((((z9.setCell ⟨w.heap.size, 0, none⟩ (.string VN)).setCell ⟨w.heap.size, 1, none⟩ (.string VD)).setCell ⟨w.heap.size, 2, none⟩ (.int .i64 E0)).setCell ⟨w.heap.size, 3, none⟩ (.int .i64 E1)).setCell ⟨w.heap.size, 4, none⟩ (.int .i64 E2)).setCell ⟨w.heap.size, 5, none⟩ (.int .i64 E3)) = y := ⟨_, rfl⟩
    have KY := hid (show CellsAt y w.heap.size [.string VN, .string VD, .int .i64 E0, .int .i64 E1, .int .i64 E2, .int .i64 E3] by rw [← hy]; exact put6 (HC.out z9 P9.out) _ _ _ _ _ _)
    have BY := hid (show Below w.heap.size w y by rw [← hy]; exact low6 (Nat.le_refl _) (below_up B0.out P9.out) _ _ _ _ _ _)
    have HY := hid hy
    obtain ⟨⟨r0, r1, r2, r3, r4, r5⟩, ⟨r6, r7, r8, r9, ra, rb⟩⟩ := six_facts (HC.out z9 P9.out)
    clear hy
    go_wp2_with (rw [HY.out])
    obtain ⟨⟨t0, t1, t2, t3, t4, t5⟩, _⟩ := six_facts KY.out
    exact bodyPost_ret (v := .tuple #[.agg #[.string VN, .string VD, .int .i64 E0, .int .i64 E1, .int .i64 E2, .int .i64 E3], .int .i64 (P : Int), .int .i64 0]) (by simp [results, Tryz.results33, go_sem, t0, t1, t2, t3, t4, t5]) rfl ⟨rfl, BY.out⟩
   | false =>
    have hO : O = none := HO.out.symm.trans (hd.trans (by unfold dK4; rw [hok]; rfl))
    subst hO
    obtain ⟨rfl, rfl, rfl, rfl, rfl, rfl, rfl, rfl⟩ := HALL.out
    have cu := fun W => unitOf_u E0 E1 E2 E3 W
    have ck : ∀ W, Ready W → Calls Tryz.prog 43 #[.agg #[.string VN, .string VD], .agg #[.int .i64 E0, .int .i64 E1, .int .i64 E2, .int .i64 E3], .int .i64 0] W fun e w' => e = .returned (.tuple #[.agg #[.string ⟨#[]⟩, .string ⟨#[]⟩, .int .i64 0, .int .i64 0, .int .i64 0, .int .i64 0], .int .i64 50]) ∧ Below W.heap.size W w' := fun W h => by have k := checked_u VN VD E0 E1 E2 E3 0 (by omega) (by omega) W h; rw [hok] at k; exact k
    have HRz := hid (HR.out.below hbw)
    have KS := hid (show ∀ W, Below wr.heap.size wr W → ((W.cell? ⟨W0.heap.size, 0, none⟩ = some (.string VN) ∧ W.cell? ⟨W0.heap.size, 1, none⟩ = some (.string VD)) ∧ (W.cell? ⟨W0.heap.size + 1, 0, none⟩ = some (.int .i64 E0) ∧ W.cell? ⟨W0.heap.size + 1, 1, none⟩ = some (.int .i64 E1) ∧ W.cell? ⟨W0.heap.size + 1, 2, none⟩ = some (.int .i64 E2) ∧ W.cell? ⟨W0.heap.size + 1, 3, none⟩ = some (.int .i64 E3))) from fun W b => ⟨(two_facts (hV.below b)).1, (four_facts (hX.below b)).1⟩)
    have CU := hid cu; have CK := hid ck; have HBW := hid hbw
    clear cu ck hV hX hbw hv1 hv2 hd hp hok
    have HQ := hid (HC.out wr HBW.out)
    have g0 := Below.refl wr.heap.size wr
    go_upto_region 15 with fail
    go_cut [9, 11] from 54 to 61 (fun se sp wx => se = .int .i64 50 ∧ ∃ A : Nat, sp = .pointer (some ⟨A, 0, none⟩) ∧ Hid (CellsAt wx A [.string ⟨#[]⟩, .string ⟨#[]⟩, .int .i64 0, .int .i64 0, .int .i64 0, .int .i64 0]) ∧ Hid (Below wr.heap.size wr wx))
    case first =>
     go_region_held3 (fun W => (W.cell? ⟨W0.heap.size, 0, none⟩ = some (.string VN) ∧ W.cell? ⟨W0.heap.size, 1, none⟩ = some (.string VD)) ∧ (W.cell? ⟨W0.heap.size + 1, 0, none⟩ = some (.int .i64 E0) ∧ W.cell? ⟨W0.heap.size + 1, 1, none⟩ = some (.int .i64 E1) ∧ W.cell? ⟨W0.heap.size + 1, 2, none⟩ = some (.int .i64 E2) ∧ W.cell? ⟨W0.heap.size + 1, 3, none⟩ = some (.int .i64 E3))) (first | with_reducible exact KS.out _ g2 | with_reducible exact KS.out _ (g2.alloc g2.size _) | with_reducible exact KS.out _ (low6 (Nat.le_refl _) g2 _ _ _ _ _ _) | with_reducible exact KS.out _ (low6 g1.size g2 _ _ _ _ _ _) | with_reducible exact KS.out _ g1 | with_reducible exact KS.out _ (g1.alloc g1.size _) | with_reducible exact KS.out _ g0 | with_reducible exact KS.out _ g0.drew | with_reducible exact KS.out _ (g0.alloc (Nat.le_refl _) _) | with_reducible exact KS.out _ (g0.alloc (Nat.le_refl _) _).drew | with_reducible exact KS.out _ (g0.drew.alloc (Nat.le_refl _) _)) (first | (go_at_call 73; (with_reducible refine (CU.out _).mono ?_); (rintro e y1 ⟨rfl, k1⟩); (have g1 : Below wr.heap.size wr y1 := below_up (by first | with_reducible exact g0 | with_reducible exact g0.drew | with_reducible exact g0.alloc (Nat.le_refl _) _ | with_reducible exact (g0.alloc (Nat.le_refl _) _).drew | with_reducible exact g0.drew.alloc (Nat.le_refl _) _) k1); (first | (have e1 : CellsAt y1 wr.heap.size [.string ⟨#[]⟩, .string ⟨#[]⟩, .int .i64 0, .int .i64 0, .int .i64 0, .int .i64 0] := (by with_reducible exact cells_allocA rfl k1)) | (have e1 : CellsAt y1 wr.heap.size [.string ⟨#[]⟩, .string ⟨#[]⟩, .int .i64 0, .int .i64 0, .int .i64 0, .int .i64 0] := (by with_reducible exact cells_allocB rfl k1)) | (have e1 : CellsAt y1 wr.heap.size [.string ⟨#[]⟩, .string ⟨#[]⟩, .int .i64 0, .int .i64 0, .int .i64 0, .int .i64 0] := (by with_reducible exact cells_allocC rfl k1)) | skip)) | (go_at_call 43; (with_reducible refine (CK.out _ ?_).mono ?_); (first | with_reducible exact HRz.out.below g1 | with_reducible exact HRz.out.below (g1.alloc g1.size _)); (rintro e y2 ⟨rfl, k2⟩); (have g2 : Below wr.heap.size wr y2 := below_up (by first | with_reducible exact g1 | with_reducible exact g1.alloc g1.size _ | with_reducible exact g1.drew) k2); (first | ((have e2 := CellsAt.below e1 k2); (obtain ⟨⟨r0, r1, r2, r3, r4, r5⟩, ⟨r6, r7, r8, r9, ra, rb⟩⟩ := six_facts e2)) | ((have e2 : CellsAt y2 y1.heap.size [.string ⟨#[]⟩, .string ⟨#[]⟩, .int .i64 0, .int .i64 0, .int .i64 0, .int .i64 0] := (by with_reducible exact cells_allocB rfl k2)); (obtain ⟨⟨r0, r1, r2, r3, r4, r5⟩, ⟨r6, r7, r8, r9, ra, rb⟩⟩ := six_facts e2)) | skip)))
     all_goals (go_wp2_with fail; go_meet; exact ⟨rfl, _, rfl, hid (by first | with_reducible exact put6 e2 _ _ _ _ _ _ | with_reducible exact cellsAt_new rfl | exact cellsAt_new rfl), hid (by first | with_reducible exact low6 (Nat.le_refl _) g2 _ _ _ _ _ _ | with_reducible exact low6 g1.size g2 _ _ _ _ _ _ | with_reducible exact g2.alloc g2.size _ | exact g2.alloc g2.size _)⟩)
    clear g0
    obtain ⟨rfl, AQ, rfl, hq, hbx⟩ := hcut
    generalize wc = z9 at *
    have F9 := hq
    have P9 := hid (below_up HBW.out hbx.out)
    clear hq hbx
    obtain ⟨⟨s0, s1, s2, s3, s4, s5⟩, _⟩ := six_facts F9.out
    obtain ⟨y, hy⟩ : ∃ y, ((((((z9.setCell ⟨w.heap.size, 0, none⟩ (.string ⟨#[]⟩)).setCell ⟨w.heap.size, 1, none⟩ (.string ⟨#[]⟩)).setCell ⟨w.heap.size, 2, none⟩ (.int .i64 0)).setCell ⟨w.heap.size, 3, none⟩ (.int .i64 0)).setCell ⟨w.heap.size, 4, none⟩ (.int .i64 0)).setCell ⟨w.heap.size, 5, none⟩ (.int .i64 0)) = y := ⟨_, rfl⟩
    have KY := hid (show CellsAt y w.heap.size [.string ⟨#[]⟩, .string ⟨#[]⟩, .int .i64 0, .int .i64 0, .int .i64 0, .int .i64 0] by rw [← hy]; exact put6 (HC.out z9 P9.out) _ _ _ _ _ _)
    have BY := hid (show Below w.heap.size w y by rw [← hy]; exact low6 (Nat.le_refl _) (below_up B0.out P9.out) _ _ _ _ _ _)
    have HY := hid hy
    obtain ⟨⟨r0, r1, r2, r3, r4, r5⟩, ⟨r6, r7, r8, r9, ra, rb⟩⟩ := six_facts (HC.out z9 P9.out)
    clear hy
    go_wp2_with (rw [HY.out])
    obtain ⟨⟨t0, t1, t2, t3, t4, t5⟩, _⟩ := six_facts KY.out
    exact bodyPost_ret (v := .tuple #[.agg #[.string ⟨#[]⟩, .string ⟨#[]⟩, .int .i64 0, .int .i64 0, .int .i64 0, .int .i64 0], .int .i64 0, .int .i64 50]) (by simp [results, Tryz.results33, go_sem, t0, t1, t2, t3, t4, t5]) rfl ⟨rfl, BY.out⟩
 obtain ⟨e1, e2, e3⟩ := dec_out hin
 rw [e1, e2, e3]
 clear e1 e2 e3
 show Calls _ _ _ _ fun e w' => e = .returned (.tuple #[.agg #[.string ⟨#[]⟩, .string ⟨#[]⟩, .int .i64 0, .int .i64 0, .int .i64 0, .int .i64 0], .int .i64 0, .int .i64 2]) ∧ _
 by_cases h1 : a < 0
 · clear hin
   obtain ⟨y, hy⟩ : ∃ y, ((((((W0.setCell ⟨w.heap.size, 0, none⟩ (.string ⟨#[]⟩)).setCell ⟨w.heap.size, 1, none⟩ (.string ⟨#[]⟩)).setCell ⟨w.heap.size, 2, none⟩ (.int .i64 0)).setCell ⟨w.heap.size, 3, none⟩ (.int .i64 0)).setCell ⟨w.heap.size, 4, none⟩ (.int .i64 0)).setCell ⟨w.heap.size, 5, none⟩ (.int .i64 0)) = y := ⟨_, rfl⟩
   have KY := hid (show CellsAt y w.heap.size [.string ⟨#[]⟩, .string ⟨#[]⟩, .int .i64 0, .int .i64 0, .int .i64 0, .int .i64 0] by rw [← hy]; exact put6 (HC.out W0 (Below.refl _ _)) _ _ _ _ _ _)
   have BY := hid (show Below w.heap.size w y by rw [← hy]; exact low6 (Nat.le_refl _) B0.out _ _ _ _ _ _)
   have HY := hid hy
   obtain ⟨⟨r0, r1, r2, r3, r4, r5⟩, ⟨r6, r7, r8, r9, ra, rb⟩⟩ := six_facts (HC.out W0 (Below.refl _ _))
   clear hy
   go_enter Tryz.func33, Tryz.ntmps33
   go_upto_region 1 with (rw [HW.out])
   go_wp2_with (rw [HY.out])
   obtain ⟨⟨t0, t1, t2, t3, t4, t5⟩, _⟩ := six_facts KY.out
   exact bodyPost_ret (v := .tuple #[.agg #[.string ⟨#[]⟩, .string ⟨#[]⟩, .int .i64 0, .int .i64 0, .int .i64 0, .int .i64 0], .int .i64 0, .int .i64 2]) (by simp [results, Tryz.results33, go_sem, t0, t1, t2, t3, t4, t5]) rfl ⟨rfl, BY.out⟩
 have h1' : 0 ≤ a := by omega
 have h2 : (s.size : Int) < a := by omega
 clear hin
 obtain ⟨y, hy⟩ : ∃ y, ((((((W0.setCell ⟨w.heap.size, 0, none⟩ (.string ⟨#[]⟩)).setCell ⟨w.heap.size, 1, none⟩ (.string ⟨#[]⟩)).setCell ⟨w.heap.size, 2, none⟩ (.int .i64 0)).setCell ⟨w.heap.size, 3, none⟩ (.int .i64 0)).setCell ⟨w.heap.size, 4, none⟩ (.int .i64 0)).setCell ⟨w.heap.size, 5, none⟩ (.int .i64 0)) = y := ⟨_, rfl⟩
 have KY := hid (show CellsAt y w.heap.size [.string ⟨#[]⟩, .string ⟨#[]⟩, .int .i64 0, .int .i64 0, .int .i64 0, .int .i64 0] by rw [← hy]; exact put6 (HC.out W0 (Below.refl _ _)) _ _ _ _ _ _)
 have BY := hid (show Below w.heap.size w y by rw [← hy]; exact low6 (Nat.le_refl _) B0.out _ _ _ _ _ _)
 have HY := hid hy
 obtain ⟨⟨r0, r1, r2, r3, r4, r5⟩, ⟨r6, r7, r8, r9, ra, rb⟩⟩ := six_facts (HC.out W0 (Below.refl _ _))
 clear hy
 go_enter Tryz.func33, Tryz.ntmps33
 go_upto_region 1 with (rw [HW.out])
 go_wp2_with (rw [HY.out])
 obtain ⟨⟨t0, t1, t2, t3, t4, t5⟩, _⟩ := six_facts KY.out
 exact bodyPost_ret (v := .tuple #[.agg #[.string ⟨#[]⟩, .string ⟨#[]⟩, .int .i64 0, .int .i64 0, .int .i64 0, .int .i64 0], .int .i64 0, .int .i64 2]) (by simp [results, Tryz.results33, go_sem, t0, t1, t2, t3, t4, t5]) rfl ⟨rfl, BY.out⟩
theorem sane5C1 (W : World) (h : Ready W) : Calls Tryz.prog 17 #[.agg #[.string ⟨#[49]⟩, .string ⟨#[49]⟩, .int .i64 1, .int .i64 0, .int .i64 0, .int .i64 0], .agg #[.string ⟨#[49]⟩, .string ⟨#[50]⟩, .int .i64 1, .int .i64 0, .int .i64 0, .int .i64 0]] W fun e w' => e = .returned (.tuple #[.agg #[.string ⟨#[51]⟩, .string ⟨#[50]⟩, .int .i64 1, .int .i64 0, .int .i64 0, .int .i64 0], .int .i64 0]) ∧ Below W.heap.size W w' := by
 have c := add_u (⟨⟨#[49]⟩, ⟨#[49]⟩, 1, 0, 0, 0⟩ : Qt) (⟨⟨#[49]⟩, ⟨#[50]⟩, 1, 0, 0, 0⟩ : Qt) ⟨by decide, by decide⟩ ⟨by decide, by decide⟩ W h
 have e : addQt (⟨⟨#[49]⟩, ⟨#[49]⟩, 1, 0, 0, 0⟩ : Qt) (⟨⟨#[49]⟩, ⟨#[50]⟩, 1, 0, 0, 0⟩ : Qt) = (⟨⟨#[51]⟩, ⟨#[50]⟩, 1, 0, 0, 0⟩ : Qt) := Qt.ext' (by decide +kernel) (by decide +kernel) (by decide +kernel) (by decide +kernel) (by decide +kernel) (by decide +kernel)
 have e2 : eU (addX (⟨⟨#[49]⟩, ⟨#[49]⟩, 1, 0, 0, 0⟩ : Qt) (⟨⟨#[49]⟩, ⟨#[50]⟩, 1, 0, 0, 0⟩ : Qt)) = 0 := by decide +kernel
 rw [e, e2] at c
 exact c
theorem sane5C2 (W : World) (h : Ready W) : Calls Tryz.prog 17 #[.agg #[.string ⟨#[49]⟩, .string ⟨#[49]⟩, .int .i64 1, .int .i64 0, .int .i64 0, .int .i64 0], .agg #[.string ⟨#[49]⟩, .string ⟨#[49]⟩, .int .i64 0, .int .i64 1, .int .i64 0, .int .i64 0]] W fun e w' => (∃ r : Qt, e = .returned (.tuple #[.agg #[.string r.n, .string r.d, .int .i64 r.t, .int .i64 r.b, .int .i64 r.m, .int .i64 r.c], .int .i64 50])) ∧ Below W.heap.size W w' := by
 have c := add_u (⟨⟨#[49]⟩, ⟨#[49]⟩, 1, 0, 0, 0⟩ : Qt) (⟨⟨#[49]⟩, ⟨#[49]⟩, 0, 1, 0, 0⟩ : Qt) ⟨by decide, by decide⟩ ⟨by decide, by decide⟩ W h
 have e2 : eU (addX (⟨⟨#[49]⟩, ⟨#[49]⟩, 1, 0, 0, 0⟩ : Qt) (⟨⟨#[49]⟩, ⟨#[49]⟩, 0, 1, 0, 0⟩ : Qt)) = 50 := by decide +kernel
 rw [e2] at c
 exact c.mono fun _ _ h => ⟨⟨_, h.1⟩, h.2⟩
theorem sane5C3 (W : World) (h : Ready W) : Calls Tryz.prog 21 #[.agg #[.string ⟨#[50]⟩, .string ⟨#[49]⟩, .int .i64 1, .int .i64 0, .int .i64 0, .int .i64 0], .agg #[.string ⟨#[51]⟩, .string ⟨#[49]⟩, .int .i64 1, .int .i64 0, .int .i64 0, .int .i64 0]] W fun e w' => e = .returned (.tuple #[.agg #[.string ⟨#[54]⟩, .string ⟨#[49]⟩, .int .i64 2, .int .i64 0, .int .i64 0, .int .i64 0], .int .i64 0]) ∧ Below W.heap.size W w' := by
 have c := mul_u (⟨⟨#[50]⟩, ⟨#[49]⟩, 1, 0, 0, 0⟩ : Qt) (⟨⟨#[51]⟩, ⟨#[49]⟩, 1, 0, 0, 0⟩ : Qt) ⟨by decide, by decide⟩ ⟨by decide, by decide⟩ W h
 have e : mulQt (⟨⟨#[50]⟩, ⟨#[49]⟩, 1, 0, 0, 0⟩ : Qt) (⟨⟨#[51]⟩, ⟨#[49]⟩, 1, 0, 0, 0⟩ : Qt) = (⟨⟨#[54]⟩, ⟨#[49]⟩, 2, 0, 0, 0⟩ : Qt) := Qt.ext' (by decide +kernel) (by decide +kernel) (by decide +kernel) (by decide +kernel) (by decide +kernel) (by decide +kernel)
 have e2 : eU (mulX (⟨⟨#[50]⟩, ⟨#[49]⟩, 1, 0, 0, 0⟩ : Qt) (⟨⟨#[51]⟩, ⟨#[49]⟩, 1, 0, 0, 0⟩ : Qt)) = 0 := by decide +kernel
 rw [e, e2] at c
 exact c
theorem sane5C4 (W : World) (h : Ready W) : Calls Tryz.prog 21 #[.agg #[.string ⟨#[54]⟩, .string ⟨#[49]⟩, .int .i64 2, .int .i64 0, .int .i64 0, .int .i64 0], .agg #[.string ⟨#[54]⟩, .string ⟨#[49]⟩, .int .i64 2, .int .i64 0, .int .i64 0, .int .i64 0]] W fun e w' => (∃ r : Qt, e = .returned (.tuple #[.agg #[.string r.n, .string r.d, .int .i64 r.t, .int .i64 r.b, .int .i64 r.m, .int .i64 r.c], .int .i64 50])) ∧ Below W.heap.size W w' := by
 have c := mul_u (⟨⟨#[54]⟩, ⟨#[49]⟩, 2, 0, 0, 0⟩ : Qt) (⟨⟨#[54]⟩, ⟨#[49]⟩, 2, 0, 0, 0⟩ : Qt) ⟨by decide, by decide⟩ ⟨by decide, by decide⟩ W h
 have e2 : eU (mulX (⟨⟨#[54]⟩, ⟨#[49]⟩, 2, 0, 0, 0⟩ : Qt) (⟨⟨#[54]⟩, ⟨#[49]⟩, 2, 0, 0, 0⟩ : Qt)) = 50 := by decide +kernel
 rw [e2] at c
 exact c.mono fun _ _ h => ⟨⟨_, h.1⟩, h.2⟩
theorem sane5C5 (W : World) (h : Ready W) : Calls Tryz.prog 23 #[.agg #[.string ⟨#[54]⟩, .string ⟨#[49]⟩, .int .i64 0, .int .i64 0, .int .i64 1, .int .i64 0], .agg #[.string ⟨#[51]⟩, .string ⟨#[49]⟩, .int .i64 1, .int .i64 0, .int .i64 0, .int .i64 0]] W fun e w' => e = .returned (.tuple #[.agg #[.string ⟨#[50]⟩, .string ⟨#[49]⟩, .int .i64 (-1), .int .i64 0, .int .i64 1, .int .i64 0], .int .i64 0]) ∧ Below W.heap.size W w' := by
 have c := div_u (⟨⟨#[54]⟩, ⟨#[49]⟩, 0, 0, 1, 0⟩ : Qt) (⟨⟨#[51]⟩, ⟨#[49]⟩, 1, 0, 0, 0⟩ : Qt) ⟨by decide, by decide⟩ ⟨by decide, by decide⟩ W h
 have e : divQt (⟨⟨#[54]⟩, ⟨#[49]⟩, 0, 0, 1, 0⟩ : Qt) (⟨⟨#[51]⟩, ⟨#[49]⟩, 1, 0, 0, 0⟩ : Qt) = (⟨⟨#[50]⟩, ⟨#[49]⟩, (-1), 0, 1, 0⟩ : Qt) := Qt.ext' (by decide +kernel) (by decide +kernel) (by decide +kernel) (by decide +kernel) (by decide +kernel) (by decide +kernel)
 have e2 : eU (divX (⟨⟨#[54]⟩, ⟨#[49]⟩, 0, 0, 1, 0⟩ : Qt) (⟨⟨#[51]⟩, ⟨#[49]⟩, 1, 0, 0, 0⟩ : Qt)) = 0 := by decide +kernel
 rw [e, e2] at c
 exact c
theorem sane5C6 (W : World) (h : Ready W) : Calls Tryz.prog 23 #[.agg #[.string ⟨#[49]⟩, .string ⟨#[49]⟩, .int .i64 1, .int .i64 0, .int .i64 0, .int .i64 0], .agg #[.string ⟨#[48]⟩, .string ⟨#[49]⟩, .int .i64 1, .int .i64 0, .int .i64 0, .int .i64 0]] W fun e w' => (∃ r : Qt, e = .returned (.tuple #[.agg #[.string r.n, .string r.d, .int .i64 r.t, .int .i64 r.b, .int .i64 r.m, .int .i64 r.c], .int .i64 50])) ∧ Below W.heap.size W w' := by
 have c := div_u (⟨⟨#[49]⟩, ⟨#[49]⟩, 1, 0, 0, 0⟩ : Qt) (⟨⟨#[48]⟩, ⟨#[49]⟩, 1, 0, 0, 0⟩ : Qt) ⟨by decide, by decide⟩ ⟨by decide, by decide⟩ W h
 have e2 : eU (divX (⟨⟨#[49]⟩, ⟨#[49]⟩, 1, 0, 0, 0⟩ : Qt) (⟨⟨#[48]⟩, ⟨#[49]⟩, 1, 0, 0, 0⟩ : Qt)) = 50 := by decide +kernel
 rw [e2] at c
 exact c.mono fun _ _ h => ⟨⟨_, h.1⟩, h.2⟩
theorem sane5C7 (W : World) (h : Ready W) : Calls Tryz.prog 19 #[.agg #[.string ⟨#[51]⟩, .string ⟨#[50]⟩, .int .i64 1, .int .i64 0, .int .i64 0, .int .i64 0], .agg #[.string ⟨#[51]⟩, .string ⟨#[50]⟩, .int .i64 1, .int .i64 0, .int .i64 0, .int .i64 0]] W fun e w' => e = .returned (.tuple #[.agg #[.string ⟨#[48]⟩, .string ⟨#[49]⟩, .int .i64 1, .int .i64 0, .int .i64 0, .int .i64 0], .int .i64 0]) ∧ Below W.heap.size W w' := by
 have c := sub_u (⟨⟨#[51]⟩, ⟨#[50]⟩, 1, 0, 0, 0⟩ : Qt) (⟨⟨#[51]⟩, ⟨#[50]⟩, 1, 0, 0, 0⟩ : Qt) ⟨by decide, by decide⟩ ⟨by decide, by decide⟩ W h
 have e : subQt (⟨⟨#[51]⟩, ⟨#[50]⟩, 1, 0, 0, 0⟩ : Qt) (⟨⟨#[51]⟩, ⟨#[50]⟩, 1, 0, 0, 0⟩ : Qt) = (⟨⟨#[48]⟩, ⟨#[49]⟩, 1, 0, 0, 0⟩ : Qt) := Qt.ext' (by decide +kernel) (by decide +kernel) (by decide +kernel) (by decide +kernel) (by decide +kernel) (by decide +kernel)
 have e2 : eU (subX (⟨⟨#[51]⟩, ⟨#[50]⟩, 1, 0, 0, 0⟩ : Qt) (⟨⟨#[51]⟩, ⟨#[50]⟩, 1, 0, 0, 0⟩ : Qt)) = 0 := by decide +kernel
 rw [e, e2] at c
 exact c
theorem sane5C8 (W : World) (h : Set5 W) : Calls Tryz.prog 31 #[.string ⟨#[51, 47, 50, 32, 117, 115, 32, 98, 121, 116, 101, 94, 45, 49]⟩] W fun e w' => e = .returned (.tuple #[.agg #[.string ⟨#[51]⟩, .string ⟨#[50]⟩, .int .i64 1, .int .i64 (-1), .int .i64 0, .int .i64 0], .int .i64 0]) ∧ Below W.heap.size W w' := by
 have c := parse_u ⟨#[51, 47, 50, 32, 117, 115, 32, 98, 121, 116, 101, 94, 45, 49]⟩ (by decide) W h
 have e : parQt ⟨#[51, 47, 50, 32, 117, 115, 32, 98, 121, 116, 101, 94, 45, 49]⟩ = (⟨⟨#[51]⟩, ⟨#[50]⟩, 1, (-1), 0, 0⟩ : Qt) := Qt.ext' (by decide +kernel) (by decide +kernel) (by decide +kernel) (by decide +kernel) (by decide +kernel) (by decide +kernel)
 have e2 : eU (parUB ⟨#[51, 47, 50, 32, 117, 115, 32, 98, 121, 116, 101, 94, 45, 49]⟩) = 0 := by decide +kernel
 rw [e, e2] at c
 exact c
theorem sane5C9 (W : World) (h : Set5 W) : Calls Tryz.prog 31 #[.string ⟨#[53, 32, 117, 115, 94, 49]⟩] W fun e w' => (∃ r : Qt, e = .returned (.tuple #[.agg #[.string r.n, .string r.d, .int .i64 r.t, .int .i64 r.b, .int .i64 r.m, .int .i64 r.c], .int .i64 50])) ∧ Below W.heap.size W w' := by
 have c := parse_u ⟨#[53, 32, 117, 115, 94, 49]⟩ (by decide) W h
 have e2 : eU (parUB ⟨#[53, 32, 117, 115, 94, 49]⟩) = 50 := by decide +kernel
 rw [e2] at c
 exact c.mono fun _ _ h => ⟨⟨_, h.1⟩, h.2⟩
theorem sane5C10 (W : World) (h : Ready W) : Calls Tryz.prog 25 #[.agg #[.string ⟨#[49]⟩, .string ⟨#[50]⟩, .int .i64 1, .int .i64 0, .int .i64 0, .int .i64 0], .agg #[.string ⟨#[49]⟩, .string ⟨#[51]⟩, .int .i64 1, .int .i64 0, .int .i64 0, .int .i64 0]] W fun e w' => e = .returned (.tuple #[.int .i64 1, .int .i64 0]) ∧ Below W.heap.size W w' := by
 have c := cmp_u (⟨⟨#[49]⟩, ⟨#[50]⟩, 1, 0, 0, 0⟩ : Qt) (⟨⟨#[49]⟩, ⟨#[51]⟩, 1, 0, 0, 0⟩ : Qt) ⟨by decide, by decide⟩ ⟨by decide, by decide⟩ W h
 have e : cmpV (⟨⟨#[49]⟩, ⟨#[50]⟩, 1, 0, 0, 0⟩ : Qt) (⟨⟨#[49]⟩, ⟨#[51]⟩, 1, 0, 0, 0⟩ : Qt) = 1 := by decide +kernel
 have e2 : eU (cmpX (⟨⟨#[49]⟩, ⟨#[50]⟩, 1, 0, 0, 0⟩ : Qt) (⟨⟨#[49]⟩, ⟨#[51]⟩, 1, 0, 0, 0⟩ : Qt)) = 0 := by decide +kernel
 rw [e, e2] at c
 exact c
theorem sane5C11 (W : World) (h : Ready W) : Calls Tryz.prog 27 #[.agg #[.string ⟨#[49]⟩, .string ⟨#[50]⟩, .int .i64 1, .int .i64 0, .int .i64 0, .int .i64 0]] W fun e w' => e = .returned (.tuple #[.string ⟨#[2, 49, 2, 50, 2, 0, 0, 0]⟩, .int .i64 0]) ∧ Below W.heap.size W w' := by
 have c := encode_u ⟨#[49]⟩ ⟨#[50]⟩ 1 0 0 0 (by decide) (by decide) W h
 rw [show encT ⟨#[49]⟩ ⟨#[50]⟩ 1 0 0 0 = ⟨#[2, 49, 2, 50, 2, 0, 0, 0]⟩ by decide +kernel, show eU (okU ⟨#[49]⟩ ⟨#[50]⟩ 1 0 0 0) = 0 by decide +kernel] at c
 exact c
theorem sane5C12 (W : World) (h : Ready W) : Calls Tryz.prog 33 #[.string ⟨#[2, 49, 2, 50, 2, 0, 0, 0]⟩, .int .i64 0] W fun e w' => e = .returned (.tuple #[.agg #[.string ⟨#[49]⟩, .string ⟨#[50]⟩, .int .i64 1, .int .i64 0, .int .i64 0, .int .i64 0], .int .i64 8, .int .i64 0]) ∧ Below W.heap.size W w' := by
 have c := decode_u ⟨#[2, 49, 2, 50, 2, 0, 0, 0]⟩ (by decide) 0 W h
 have e : decQt ⟨#[2, 49, 2, 50, 2, 0, 0, 0]⟩ 0 = (⟨⟨#[49]⟩, ⟨#[50]⟩, 1, 0, 0, 0⟩ : Qt) := Qt.ext' (by decide +kernel) (by decide +kernel) (by decide +kernel) (by decide +kernel) (by decide +kernel) (by decide +kernel)
 rw [e, show decP ⟨#[2, 49, 2, 50, 2, 0, 0, 0]⟩ 0 = 8 by decide +kernel, show decE ⟨#[2, 49, 2, 50, 2, 0, 0, 0]⟩ 0 = 0 by decide +kernel] at c
 exact c
theorem sane5C13 (W : World) (h : Set5 W) : Calls Tryz.prog 29 #[.agg #[.string ⟨#[50]⟩, .string ⟨#[49]⟩, .int .i64 (-1), .int .i64 0, .int .i64 1, .int .i64 0]] W fun e w' => e = .returned (.string ⟨#[50, 32, 117, 115, 94, 45, 49, 32, 99, 101, 110, 116]⟩) ∧ Below W.heap.size W w' := by
 have c := print_u ⟨#[50]⟩ ⟨#[49]⟩ (-1) 0 1 0 (by decide) (by decide) W h
 rw [show printU ⟨#[50]⟩ ⟨#[49]⟩ (-1) 0 1 0 = ⟨#[50, 32, 117, 115, 94, 45, 49, 32, 99, 101, 110, 116]⟩ by decide +kernel] at c
 exact c
theorem sane5C14 (W : World) (h : Ready W) : Calls Tryz.prog 13 #[.agg #[.string ⟨#[51]⟩, .string ⟨#[50]⟩, .int .i64 1, .int .i64 0, .int .i64 0, .int .i64 0]] W fun e w' => e = .returned (.bool true) ∧ Below W.heap.size W w' := by
 have c := valid_u ⟨#[51]⟩ ⟨#[50]⟩ 1 0 0 0 (by decide) (by decide) W h
 rw [show okU ⟨#[51]⟩ ⟨#[50]⟩ 1 0 0 0 = true by decide +kernel] at c
 exact c
theorem sane5C15 (W : World) (h : Ready W) : Calls Tryz.prog 13 #[.agg #[.string ⟨#[]⟩, .string ⟨#[]⟩, .int .i64 0, .int .i64 0, .int .i64 0, .int .i64 0]] W fun e w' => e = .returned (.bool false) ∧ Below W.heap.size W w' := by
 have c := valid_u ⟨#[]⟩ ⟨#[]⟩ 0 0 0 0 (by decide) (by decide) W h
 rw [show okU ⟨#[]⟩ ⟨#[]⟩ 0 0 0 0 = false by decide +kernel] at c
 exact c
theorem sane5C16 (W : World) : Calls Tryz.prog 15 #[.agg #[.int .i64 0, .int .i64 0, .int .i64 0, .int .i64 (-3)]] W fun e w' => e = .returned (.bool true) ∧ Below W.heap.size W w' := by
 have c := validUnit_u 0 0 0 (-3) W
 rw [show okE 0 0 0 (-3) = true by decide +kernel] at c
 exact c
theorem sane5C17 (W : World) : Calls Tryz.prog 15 #[.agg #[.int .i64 0, .int .i64 0, .int .i64 0, .int .i64 4]] W fun e w' => e = .returned (.bool false) ∧ Below W.heap.size W w' := by
 have c := validUnit_u 0 0 0 4 W
 rw [show okE 0 0 0 4 = false by decide +kernel] at c
 exact c
theorem sane_any5 (w : World) (hR : Set5 w) : Calls Tryz.prog 10 #[] w fun e w' => e = .returned (.bool true) ∧ Below w.heap.size w w' := by
 have HR := hid hR
 clear hR
 go_enter Tryz.func10, Tryz.ntmps10
 have P0 := hid (Below.refl w.heap.size w)
 have E0 := hid (fun (W : World) (_ : Below w.heap.size w W) => trivial)
 go_wp2_with fail
 refine (us_any ⟨#[49]⟩ ⟨#[49]⟩ _).mono ?_
 rintro e z1 ⟨rfl, b1⟩
 have B1 := hid b1
 have P1 := hid (below_up P0.out b1)
 have E1 := hid (fun W (b : Below z1.heap.size z1 W) => E0.out W (below_up B1.out b))
 clear b1
 go_wp2_with fail
 refine (us_any ⟨#[49]⟩ ⟨#[50]⟩ _).mono ?_
 rintro e z2 ⟨rfl, b2⟩
 have B2 := hid b2
 have P2 := hid (below_up P1.out b2)
 have E2 := hid (fun W (b : Below z2.heap.size z2 W) => E1.out W (below_up B2.out b))
 clear b2
 go_wp2_with fail
 refine (sane5C1 _ ((HR.out.below P2.out)).1).mono ?_
 rintro e z3 ⟨rfl, b3⟩
 have B3 := hid b3
 have P3 := hid (below_up P2.out b3)
 have E3 := hid (fun W (b : Below z3.heap.size z3 W) => E2.out W (below_up B3.out b))
 clear b3
 obtain ⟨z4, hz4, b4, sz4, f4⟩ := lay1 z3 (.string ⟨#[51]⟩) [.string ⟨#[50]⟩, .int .i64 1, .int .i64 0, .int .i64 0, .int .i64 0] 27
 have V4 := hid hz4
 clear hz4 sz4
 have B4 := hid b4
 have P4 := hid (below_up P3.out b4)
 have E4 := hid (fun W (b : Below z4.heap.size z4 W) => And.intro (f4 W b) (E3.out W (below_up B4.out b)))
 clear b4 f4
 go_wp2_with (rw [V4.out])
 refine (us_any ⟨#[49]⟩ ⟨#[49]⟩ _).mono ?_
 rintro e z5 ⟨rfl, b5⟩
 have B5 := hid b5
 have P5 := hid (below_up P4.out b5)
 have E5 := hid (fun W (b : Below z5.heap.size z5 W) => E4.out W (below_up B5.out b))
 clear b5
 go_wp2_with fail
 refine (sane5C2 _ ((HR.out.below P5.out)).1).mono ?_
 rintro e z6 ⟨⟨r2, rfl⟩, b6⟩
 have B6 := hid b6
 have P6 := hid (below_up P5.out b6)
 have E6 := hid (fun W (b : Below z6.heap.size z6 W) => E5.out W (below_up B6.out b))
 clear b6
 obtain ⟨z7, hz7, b7, sz7, f7⟩ := lay1 z6 (.string r2.n) [.string r2.d, .int .i64 r2.t, .int .i64 r2.b, .int .i64 r2.m, .int .i64 r2.c] 27
 have V7 := hid hz7
 clear hz7 sz7
 have B7 := hid b7
 have P7 := hid (below_up P6.out b7)
 have E7 := hid (fun W (b : Below z7.heap.size z7 W) => And.intro (f7 W b) (E6.out W (below_up B7.out b)))
 clear b7 f7
 go_wp2_with (rw [V7.out])
 refine (us_any ⟨#[50]⟩ ⟨#[49]⟩ _).mono ?_
 rintro e z8 ⟨rfl, b8⟩
 have B8 := hid b8
 have P8 := hid (below_up P7.out b8)
 have E8 := hid (fun W (b : Below z8.heap.size z8 W) => E7.out W (below_up B8.out b))
 clear b8
 go_wp2_with fail
 refine (us_any ⟨#[51]⟩ ⟨#[49]⟩ _).mono ?_
 rintro e z9 ⟨rfl, b9⟩
 have B9 := hid b9
 have P9 := hid (below_up P8.out b9)
 have E9 := hid (fun W (b : Below z9.heap.size z9 W) => E8.out W (below_up B9.out b))
 clear b9
 go_wp2_with fail
 refine (sane5C3 _ ((HR.out.below P9.out)).1).mono ?_
 rintro e z10 ⟨rfl, b10⟩
 have B10 := hid b10
 have P10 := hid (below_up P9.out b10)
 have E10 := hid (fun W (b : Below z10.heap.size z10 W) => E9.out W (below_up B10.out b))
 clear b10
 obtain ⟨z11, hz11, b11, sz11, f11⟩ := lay1 z10 (.string ⟨#[54]⟩) [.string ⟨#[49]⟩, .int .i64 2, .int .i64 0, .int .i64 0, .int .i64 0] 27
 have V11 := hid hz11
 clear hz11 sz11
 have B11 := hid b11
 have P11 := hid (below_up P10.out b11)
 have E11 := hid (fun W (b : Below z11.heap.size z11 W) => And.intro (f11 W b) (E10.out W (below_up B11.out b)))
 clear b11 f11
 obtain ⟨⟨qb0, qb1, qb2, qb3, qb4, qb5⟩, ⟨qbf0, qbf1, qbf2, qbf3, qbf4, qbf5⟩⟩ := six_facts (E11.out z11 (Below.refl _ _)).1
 go_wp2_with (rw [V11.out])
 refine (sane5C4 _ ((HR.out.below P11.out)).1).mono ?_
 rintro e z12 ⟨⟨r4, rfl⟩, b12⟩
 have B12 := hid b12
 have P12 := hid (below_up P11.out b12)
 have E12 := hid (fun W (b : Below z12.heap.size z12 W) => E11.out W (below_up B12.out b))
 clear b12
 clear qb0 qb1 qb2 qb3 qb4 qb5 qbf0 qbf1 qbf2 qbf3 qbf4 qbf5
 obtain ⟨z13, hz13, b13, sz13, f13⟩ := lay1 z12 (.string r4.n) [.string r4.d, .int .i64 r4.t, .int .i64 r4.b, .int .i64 r4.m, .int .i64 r4.c] 27
 have V13 := hid hz13
 clear hz13 sz13
 have B13 := hid b13
 have P13 := hid (below_up P12.out b13)
 have E13 := hid (fun W (b : Below z13.heap.size z13 W) => And.intro (f13 W b) (E12.out W (below_up B13.out b)))
 clear b13 f13
 go_wp2_with (rw [V13.out])
 refine (us_any ⟨#[51]⟩ ⟨#[49]⟩ _).mono ?_
 rintro e z14 ⟨rfl, b14⟩
 have B14 := hid b14
 have P14 := hid (below_up P13.out b14)
 have E14 := hid (fun W (b : Below z14.heap.size z14 W) => E13.out W (below_up B14.out b))
 clear b14
 go_wp2_with fail
 refine (sane5C5 _ ((HR.out.below P14.out)).1).mono ?_
 rintro e z15 ⟨rfl, b15⟩
 have B15 := hid b15
 have P15 := hid (below_up P14.out b15)
 have E15 := hid (fun W (b : Below z15.heap.size z15 W) => E14.out W (below_up B15.out b))
 clear b15
 obtain ⟨z16, hz16, b16, sz16, f16⟩ := lay1 z15 (.string ⟨#[50]⟩) [.string ⟨#[49]⟩, .int .i64 (-1), .int .i64 0, .int .i64 1, .int .i64 0] 27
 have V16 := hid hz16
 clear hz16 sz16
 have B16 := hid b16
 have P16 := hid (below_up P15.out b16)
 have E16 := hid (fun W (b : Below z16.heap.size z16 W) => And.intro (f16 W b) (E15.out W (below_up B16.out b)))
 clear b16 f16
 go_wp2_with (rw [V16.out])
 refine (us_any ⟨#[49]⟩ ⟨#[49]⟩ _).mono ?_
 rintro e z17 ⟨rfl, b17⟩
 have B17 := hid b17
 have P17 := hid (below_up P16.out b17)
 have E17 := hid (fun W (b : Below z17.heap.size z17 W) => E16.out W (below_up B17.out b))
 clear b17
 go_wp2_with fail
 refine (us_any ⟨#[48]⟩ ⟨#[49]⟩ _).mono ?_
 rintro e z18 ⟨rfl, b18⟩
 have B18 := hid b18
 have P18 := hid (below_up P17.out b18)
 have E18 := hid (fun W (b : Below z18.heap.size z18 W) => E17.out W (below_up B18.out b))
 clear b18
 go_wp2_with fail
 refine (sane5C6 _ ((HR.out.below P18.out)).1).mono ?_
 rintro e z19 ⟨⟨r6, rfl⟩, b19⟩
 have B19 := hid b19
 have P19 := hid (below_up P18.out b19)
 have E19 := hid (fun W (b : Below z19.heap.size z19 W) => E18.out W (below_up B19.out b))
 clear b19
 obtain ⟨z20, hz20, b20, sz20, f20⟩ := lay1 z19 (.string r6.n) [.string r6.d, .int .i64 r6.t, .int .i64 r6.b, .int .i64 r6.m, .int .i64 r6.c] 27
 have V20 := hid hz20
 clear hz20 sz20
 have B20 := hid b20
 have P20 := hid (below_up P19.out b20)
 have E20 := hid (fun W (b : Below z20.heap.size z20 W) => And.intro (f20 W b) (E19.out W (below_up B20.out b)))
 clear b20 f20
 go_upto_region 7 with (rw [V20.out])
 have KS := hid (show ∀ W, Below z20.heap.size z20 W → ((W.cell? ⟨z3.heap.size, 0, none⟩ = some (.string ⟨#[51]⟩) ∧ W.cell? ⟨z3.heap.size, 1, none⟩ = some (.string ⟨#[50]⟩) ∧ W.cell? ⟨z3.heap.size, 2, none⟩ = some (.int .i64 1) ∧ W.cell? ⟨z3.heap.size, 3, none⟩ = some (.int .i64 0) ∧ W.cell? ⟨z3.heap.size, 4, none⟩ = some (.int .i64 0) ∧ W.cell? ⟨z3.heap.size, 5, none⟩ = some (.int .i64 0))) from fun W b => (six_facts (E20.out W b).2.2.2.2.2.1).1)
 have HRz := hid ((HR.out.below P20.out)).1
 have g0 := Below.refl z20.heap.size z20
 go_cut [13, 14] from 67 to 72 (fun sp se wx => se = .int .i64 0 ∧ ∃ A : Nat, sp = .pointer (some ⟨A, 0, none⟩) ∧ Hid (CellsAt wx A [.string ⟨#[48]⟩, .string ⟨#[49]⟩, .int .i64 1, .int .i64 0, .int .i64 0, .int .i64 0]) ∧ Hid (Below z20.heap.size z20 wx))
 case first =>
  go_region_held3 (fun W => (W.cell? ⟨z3.heap.size, 0, none⟩ = some (.string ⟨#[51]⟩) ∧ W.cell? ⟨z3.heap.size, 1, none⟩ = some (.string ⟨#[50]⟩) ∧ W.cell? ⟨z3.heap.size, 2, none⟩ = some (.int .i64 1) ∧ W.cell? ⟨z3.heap.size, 3, none⟩ = some (.int .i64 0) ∧ W.cell? ⟨z3.heap.size, 4, none⟩ = some (.int .i64 0) ∧ W.cell? ⟨z3.heap.size, 5, none⟩ = some (.int .i64 0))) (first | with_reducible exact KS.out _ g2 | with_reducible exact KS.out _ (g2.alloc g2.size _) | with_reducible exact KS.out _ (low6 (Nat.le_refl _) g2 _ _ _ _ _ _) | with_reducible exact KS.out _ (low6 g1.size g2 _ _ _ _ _ _) | with_reducible exact KS.out _ g1 | with_reducible exact KS.out _ (g1.alloc g1.size _) | with_reducible exact KS.out _ g0 | with_reducible exact KS.out _ g0.drew | with_reducible exact KS.out _ (g0.alloc (Nat.le_refl _) _) | with_reducible exact KS.out _ (g0.alloc (Nat.le_refl _) _).drew | with_reducible exact KS.out _ (g0.drew.alloc (Nat.le_refl _) _)) (first | (go_at_call 36; (with_reducible refine (us_any _ _ _).mono ?_); (rintro e y1 ⟨rfl, k1⟩); (have g1 : Below z20.heap.size z20 y1 := below_up (by first | with_reducible exact g0 | with_reducible exact g0.drew | with_reducible exact g0.alloc (Nat.le_refl _) _ | with_reducible exact (g0.alloc (Nat.le_refl _) _).drew | with_reducible exact g0.drew.alloc (Nat.le_refl _) _) k1); (first | (have e1 : CellsAt y1 z20.heap.size [.string ⟨#[]⟩, .string ⟨#[]⟩, .int .i64 0, .int .i64 0, .int .i64 0, .int .i64 0] := (by with_reducible exact cells_allocA rfl k1)) | (have e1 : CellsAt y1 z20.heap.size [.string ⟨#[]⟩, .string ⟨#[]⟩, .int .i64 0, .int .i64 0, .int .i64 0, .int .i64 0] := (by with_reducible exact cells_allocB rfl k1)) | (have e1 : CellsAt y1 z20.heap.size [.string ⟨#[]⟩, .string ⟨#[]⟩, .int .i64 0, .int .i64 0, .int .i64 0, .int .i64 0] := (by with_reducible exact cells_allocC rfl k1)) | skip)) | (go_at_call 19; (with_reducible refine (sane5C7 _ ?_).mono ?_); (first | with_reducible exact HRz.out.below g1 | with_reducible exact HRz.out.below (g1.alloc g1.size _)); (rintro e y2 ⟨rfl, k2⟩); (have g2 : Below z20.heap.size z20 y2 := below_up (by first | with_reducible exact g1 | with_reducible exact g1.alloc g1.size _ | with_reducible exact g1.drew) k2); (first | ((have e2 := CellsAt.below e1 k2); (obtain ⟨⟨r0, r1, r2, r3, r4, r5⟩, ⟨r6, r7, r8, r9, ra, rb⟩⟩ := six_facts e2)) | ((have e2 : CellsAt y2 y1.heap.size [.string ⟨#[]⟩, .string ⟨#[]⟩, .int .i64 0, .int .i64 0, .int .i64 0, .int .i64 0] := (by with_reducible exact cells_allocB rfl k2)); (obtain ⟨⟨r0, r1, r2, r3, r4, r5⟩, ⟨r6, r7, r8, r9, ra, rb⟩⟩ := six_facts e2)) | skip)))
  all_goals (go_wp2_with fail; go_meet; exact ⟨rfl, _, rfl, hid (by first | with_reducible exact put6 e2 _ _ _ _ _ _ | with_reducible exact cellsAt_new rfl | exact cellsAt_new rfl), hid (by first | with_reducible exact low6 (Nat.le_refl _) g2 _ _ _ _ _ _ | with_reducible exact low6 g1.size g2 _ _ _ _ _ _ | with_reducible exact g2.alloc g2.size _ | exact g2.alloc g2.size _)⟩)
 clear g0 KS HRz
 obtain ⟨rfl, AD, rfl, hq, hbx⟩ := hcut
 generalize wc = zd at *
 have HQD := hq
 have bd := hbx.out
 clear hq hbx
 have fd : ∀ W, Below zd.heap.size zd W → CellsAt W AD [.string ⟨#[48]⟩, .string ⟨#[49]⟩, .int .i64 1, .int .i64 0, .int .i64 0, .int .i64 0] := fun W b => HQD.out.below b
 clear HQD
 have B21 := hid bd
 have P21 := hid (below_up P20.out bd)
 have E21 := hid (fun W (b : Below zd.heap.size zd W) => And.intro (fd W b) (E20.out W (below_up B21.out b)))
 clear bd fd
 go_wp2_with fail
 refine (sane5C8 _ (HR.out.below P21.out)).mono ?_
 rintro e z22 ⟨rfl, b22⟩
 have B22 := hid b22
 have P22 := hid (below_up P21.out b22)
 have E22 := hid (fun W (b : Below z22.heap.size z22 W) => E21.out W (below_up B22.out b))
 clear b22
 obtain ⟨z23, hz23, b23, sz23, f23⟩ := lay1 z22 (.string ⟨#[51]⟩) [.string ⟨#[50]⟩, .int .i64 1, .int .i64 (-1), .int .i64 0, .int .i64 0] 27
 have V23 := hid hz23
 clear hz23 sz23
 have B23 := hid b23
 have P23 := hid (below_up P22.out b23)
 have E23 := hid (fun W (b : Below z23.heap.size z23 W) => And.intro (f23 W b) (E22.out W (below_up B23.out b)))
 clear b23 f23
 go_wp2_with (rw [V23.out])
 refine (sane5C9 _ (HR.out.below P23.out)).mono ?_
 rintro e z24 ⟨⟨r9, rfl⟩, b24⟩
 have B24 := hid b24
 have P24 := hid (below_up P23.out b24)
 have E24 := hid (fun W (b : Below z24.heap.size z24 W) => E23.out W (below_up B24.out b))
 clear b24
 obtain ⟨z25, hz25, b25, sz25, f25⟩ := lay1 z24 (.string r9.n) [.string r9.d, .int .i64 r9.t, .int .i64 r9.b, .int .i64 r9.m, .int .i64 r9.c] 27
 have V25 := hid hz25
 clear hz25 sz25
 have B25 := hid b25
 have P25 := hid (below_up P24.out b25)
 have E25 := hid (fun W (b : Below z25.heap.size z25 W) => And.intro (f25 W b) (E24.out W (below_up B25.out b)))
 clear b25 f25
 go_wp2_with (rw [V25.out])
 refine (us_any ⟨#[49]⟩ ⟨#[50]⟩ _).mono ?_
 rintro e z26 ⟨rfl, b26⟩
 have B26 := hid b26
 have P26 := hid (below_up P25.out b26)
 have E26 := hid (fun W (b : Below z26.heap.size z26 W) => E25.out W (below_up B26.out b))
 clear b26
 go_wp2_with fail
 refine (us_any ⟨#[49]⟩ ⟨#[51]⟩ _).mono ?_
 rintro e z27 ⟨rfl, b27⟩
 have B27 := hid b27
 have P27 := hid (below_up P26.out b27)
 have E27 := hid (fun W (b : Below z27.heap.size z27 W) => E26.out W (below_up B27.out b))
 clear b27
 go_wp2_with fail
 refine (sane5C10 _ ((HR.out.below P27.out)).1).mono ?_
 rintro e z28 ⟨rfl, b28⟩
 have B28 := hid b28
 have P28 := hid (below_up P27.out b28)
 have E28 := hid (fun W (b : Below z28.heap.size z28 W) => E27.out W (below_up B28.out b))
 clear b28
 go_wp2_with fail
 refine (us_any ⟨#[49]⟩ ⟨#[50]⟩ _).mono ?_
 rintro e z29 ⟨rfl, b29⟩
 have B29 := hid b29
 have P29 := hid (below_up P28.out b29)
 have E29 := hid (fun W (b : Below z29.heap.size z29 W) => E28.out W (below_up B29.out b))
 clear b29
 go_wp2_with fail
 refine (sane5C11 _ ((HR.out.below P29.out)).1).mono ?_
 rintro e z30 ⟨rfl, b30⟩
 have B30 := hid b30
 have P30 := hid (below_up P29.out b30)
 have E30 := hid (fun W (b : Below z30.heap.size z30 W) => E29.out W (below_up B30.out b))
 clear b30
 go_wp2_with fail
 refine (sane5C12 _ ((HR.out.below P30.out)).1).mono ?_
 rintro e z31 ⟨rfl, b31⟩
 have B31 := hid b31
 have P31 := hid (below_up P30.out b31)
 have E31 := hid (fun W (b : Below z31.heap.size z31 W) => E30.out W (below_up B31.out b))
 clear b31
 obtain ⟨z32, hz32, b32, sz32, f32⟩ := lay1 z31 (.string ⟨#[49]⟩) [.string ⟨#[50]⟩, .int .i64 1, .int .i64 0, .int .i64 0, .int .i64 0] 27
 have V32 := hid hz32
 clear hz32 sz32
 have B32 := hid b32
 have P32 := hid (below_up P31.out b32)
 have E32 := hid (fun W (b : Below z32.heap.size z32 W) => And.intro (f32 W b) (E31.out W (below_up B32.out b)))
 clear b32 f32
 go_upto_region 14 with (rw [V32.out])
 have KS := hid (show ∀ W, Below z32.heap.size z32 W → ((W.cell? ⟨z3.heap.size, 0, none⟩ = some (.string ⟨#[51]⟩) ∧ W.cell? ⟨z3.heap.size, 1, none⟩ = some (.string ⟨#[50]⟩) ∧ W.cell? ⟨z3.heap.size, 2, none⟩ = some (.int .i64 1) ∧ W.cell? ⟨z3.heap.size, 3, none⟩ = some (.int .i64 0) ∧ W.cell? ⟨z3.heap.size, 4, none⟩ = some (.int .i64 0) ∧ W.cell? ⟨z3.heap.size, 5, none⟩ = some (.int .i64 0)) ∧ (W.cell? ⟨z10.heap.size, 0, none⟩ = some (.string ⟨#[54]⟩) ∧ W.cell? ⟨z10.heap.size, 1, none⟩ = some (.string ⟨#[49]⟩) ∧ W.cell? ⟨z10.heap.size, 2, none⟩ = some (.int .i64 2) ∧ W.cell? ⟨z10.heap.size, 3, none⟩ = some (.int .i64 0) ∧ W.cell? ⟨z10.heap.size, 4, none⟩ = some (.int .i64 0) ∧ W.cell? ⟨z10.heap.size, 5, none⟩ = some (.int .i64 0)) ∧ (W.cell? ⟨z15.heap.size, 0, none⟩ = some (.string ⟨#[50]⟩) ∧ W.cell? ⟨z15.heap.size, 1, none⟩ = some (.string ⟨#[49]⟩) ∧ W.cell? ⟨z15.heap.size, 2, none⟩ = some (.int .i64 (-1)) ∧ W.cell? ⟨z15.heap.size, 3, none⟩ = some (.int .i64 0) ∧ W.cell? ⟨z15.heap.size, 4, none⟩ = some (.int .i64 1) ∧ W.cell? ⟨z15.heap.size, 5, none⟩ = some (.int .i64 0)) ∧ (W.cell? ⟨AD, 0, none⟩ = some (.string ⟨#[48]⟩) ∧ W.cell? ⟨AD, 1, none⟩ = some (.string ⟨#[49]⟩) ∧ W.cell? ⟨AD, 2, none⟩ = some (.int .i64 1) ∧ W.cell? ⟨AD, 3, none⟩ = some (.int .i64 0) ∧ W.cell? ⟨AD, 4, none⟩ = some (.int .i64 0) ∧ W.cell? ⟨AD, 5, none⟩ = some (.int .i64 0)) ∧ (W.cell? ⟨z22.heap.size, 0, none⟩ = some (.string ⟨#[51]⟩) ∧ W.cell? ⟨z22.heap.size, 1, none⟩ = some (.string ⟨#[50]⟩) ∧ W.cell? ⟨z22.heap.size, 2, none⟩ = some (.int .i64 1) ∧ W.cell? ⟨z22.heap.size, 3, none⟩ = some (.int .i64 (-1)) ∧ W.cell? ⟨z22.heap.size, 4, none⟩ = some (.int .i64 0) ∧ W.cell? ⟨z22.heap.size, 5, none⟩ = some (.int .i64 0))) from fun W b => ⟨(six_facts (E32.out W b).2.2.2.2.2.2.2.2.2.1).1, (six_facts (E32.out W b).2.2.2.2.2.2.2.1).1, (six_facts (E32.out W b).2.2.2.2.2.1).1, (six_facts (E32.out W b).2.2.2.1).1, (six_facts (E32.out W b).2.2.1).1⟩)
 have HRs := hid (HR.out.below P32.out)
 have HRz := hid HRs.out.1
 have g := Below.refl z32.heap.size z32
 go_region_held3 (fun W => (W.cell? ⟨z3.heap.size, 0, none⟩ = some (.string ⟨#[51]⟩) ∧ W.cell? ⟨z3.heap.size, 1, none⟩ = some (.string ⟨#[50]⟩) ∧ W.cell? ⟨z3.heap.size, 2, none⟩ = some (.int .i64 1) ∧ W.cell? ⟨z3.heap.size, 3, none⟩ = some (.int .i64 0) ∧ W.cell? ⟨z3.heap.size, 4, none⟩ = some (.int .i64 0) ∧ W.cell? ⟨z3.heap.size, 5, none⟩ = some (.int .i64 0)) ∧ (W.cell? ⟨z10.heap.size, 0, none⟩ = some (.string ⟨#[54]⟩) ∧ W.cell? ⟨z10.heap.size, 1, none⟩ = some (.string ⟨#[49]⟩) ∧ W.cell? ⟨z10.heap.size, 2, none⟩ = some (.int .i64 2) ∧ W.cell? ⟨z10.heap.size, 3, none⟩ = some (.int .i64 0) ∧ W.cell? ⟨z10.heap.size, 4, none⟩ = some (.int .i64 0) ∧ W.cell? ⟨z10.heap.size, 5, none⟩ = some (.int .i64 0)) ∧ (W.cell? ⟨z15.heap.size, 0, none⟩ = some (.string ⟨#[50]⟩) ∧ W.cell? ⟨z15.heap.size, 1, none⟩ = some (.string ⟨#[49]⟩) ∧ W.cell? ⟨z15.heap.size, 2, none⟩ = some (.int .i64 (-1)) ∧ W.cell? ⟨z15.heap.size, 3, none⟩ = some (.int .i64 0) ∧ W.cell? ⟨z15.heap.size, 4, none⟩ = some (.int .i64 1) ∧ W.cell? ⟨z15.heap.size, 5, none⟩ = some (.int .i64 0)) ∧ (W.cell? ⟨AD, 0, none⟩ = some (.string ⟨#[48]⟩) ∧ W.cell? ⟨AD, 1, none⟩ = some (.string ⟨#[49]⟩) ∧ W.cell? ⟨AD, 2, none⟩ = some (.int .i64 1) ∧ W.cell? ⟨AD, 3, none⟩ = some (.int .i64 0) ∧ W.cell? ⟨AD, 4, none⟩ = some (.int .i64 0) ∧ W.cell? ⟨AD, 5, none⟩ = some (.int .i64 0)) ∧ (W.cell? ⟨z22.heap.size, 0, none⟩ = some (.string ⟨#[51]⟩) ∧ W.cell? ⟨z22.heap.size, 1, none⟩ = some (.string ⟨#[50]⟩) ∧ W.cell? ⟨z22.heap.size, 2, none⟩ = some (.int .i64 1) ∧ W.cell? ⟨z22.heap.size, 3, none⟩ = some (.int .i64 (-1)) ∧ W.cell? ⟨z22.heap.size, 4, none⟩ = some (.int .i64 0) ∧ W.cell? ⟨z22.heap.size, 5, none⟩ = some (.int .i64 0))) (first | with_reducible exact KS.out _ g | with_reducible exact KS.out _ g.drew) (first | (go_at_call 36; (with_reducible refine (us_any _ _ _).mono ?_); (rintro e y ⟨rfl, k'⟩); (have g : Below z32.heap.size z32 y := below_up (by first | with_reducible exact g | with_reducible exact g.drew) k')) | (go_at_call 29; (with_reducible refine (sane5C13 _ ?_).mono ?_);  (first | with_reducible exact HRs.out.below g | with_reducible exact HRs.out.below g.drew); (rintro e y ⟨rfl, k'⟩); (have g : Below z32.heap.size z32 y := below_up (by first | with_reducible exact g | with_reducible exact g.drew) k')) | (go_at_call 13; (with_reducible refine (sane5C14 _ ?_).mono ?_);  (first | with_reducible exact HRz.out.below g | with_reducible exact HRz.out.below g.drew); (rintro e y ⟨rfl, k'⟩); (have g : Below z32.heap.size z32 y := below_up (by first | with_reducible exact g | with_reducible exact g.drew) k')) | (go_at_call 13; (with_reducible refine (sane5C15 _ ?_).mono ?_);  (first | with_reducible exact HRz.out.below g | with_reducible exact HRz.out.below g.drew); (rintro e y ⟨rfl, k'⟩); (have g : Below z32.heap.size z32 y := below_up (by first | with_reducible exact g | with_reducible exact g.drew) k')) | (go_at_call 15; (with_reducible refine (sane5C16 _).mono ?_); (rintro e y ⟨rfl, k'⟩); (have g : Below z32.heap.size z32 y := below_up (by first | with_reducible exact g | with_reducible exact g.drew) k')) | (go_at_call 15; (with_reducible refine (sane5C17 _).mono ?_); (rintro e y ⟨rfl, k'⟩); (have g : Below z32.heap.size z32 y := below_up (by first | with_reducible exact g | with_reducible exact g.drew) k')))
 all_goals (
  have PE := hid (below_up P32.out g)
  clear g
  go_wp2
  go_ret
  first | exact ⟨rfl, PE.out⟩ | exact ⟨rfl, PE.out.drew⟩)
end Go.Proofs.YtcglcgphgahnpaaGreatDoor
