/-
  IntegerMatchesReference returns true for all arguments: the walk.
-/
import Derived.Test.YtildgpahacaglaaGreatDoorSane3
import Derived.Test.YtildgpahacaglaaGreatDoorRroot
namespace Go.Proofs.YtildgpahacaglaaGreatDoor
open Go Go.Proofs Go.RowKit Go.Lib

theorem root_exists (N : Nat) : ∃ r : Nat, r * r ≤ N ∧ N < (r + 1) * (r + 1) := by
  induction N with
  | zero => exact ⟨0, by decide, by decide⟩
  | succ N ih =>
    obtain ⟨r, h1, h2⟩ := ih
    by_cases h : N + 1 < (r + 1) * (r + 1)
    · exact ⟨r, by omega, h⟩
    · refine ⟨r + 1, by omega, ?_⟩
      have : (r + 1 + 1) * (r + 1 + 1) = (r + 1) * (r + 1) + 2 * (r + 1) + 1 := by rw [Nat.add_mul, Nat.mul_add]; omega
      omega
/-- Both roots return the same. -/
theorem root_both (s : ByteArray) (hs : s.size ≤ 1099511627776) : ∃ (T : ByteArray) (Z : Int),
    (∀ W, Ready W → Calls Tryz.prog 17 #[.string s] W fun e w' => e = .returned (.tuple #[.string T, .int .i64 Z]) ∧ Below W.heap.size W w') ∧
    (∀ W, Calls Tryz.prog 18 #[.string s] W fun e w' => e = .returned (.tuple #[.string T, .int .i64 Z]) ∧ Below W.heap.size W w') := by
  cases hb : (validB s && decide (0 ≤ numB s)) with
  | false =>
    refine ⟨ByteArray.empty, 30, fun W hW => ?_, fun W => ?_⟩
    · have c := root_i s hs W hW
      rw [hb] at c
      refine c.mono ?_
      rintro e w' ⟨b, h⟩
      exact ⟨h, b⟩
    · have c := rootR_any s hs W
      rw [hb] at c
      refine c.mono ?_
      rintro e w' ⟨b, h⟩
      exact ⟨h, b⟩
  | true =>
    obtain ⟨r, h1, h2⟩ := root_exists (numB s).natAbs
    refine ⟨textI (r : Int), 0, fun W hW => ?_, fun W => ?_⟩
    · have c := root_i s hs W hW
      rw [hb] at c
      refine c.mono ?_
      rintro e w' ⟨b, r', a1, a2, h⟩
      obtain rfl := root_unique a1 a2 h1 h2
      exact ⟨h, b⟩
    · have c := rootR_any s hs W
      rw [hb] at c
      refine c.mono ?_
      rintro e w' ⟨b, r', a1, a2, h⟩
      obtain rfl := root_unique a1 a2 h1 h2
      exact ⟨h, b⟩


theorem word_size {n : Int} (h0 : -9223372036854775808 ≤ n) (h1 : n ≤ 9223372036854775807) : (textI n).size ≤ 1000 := by
  apply fits_size
  show n.natAbs < 10 ^ 200
  exact Nat.lt_of_lt_of_le (show n.natAbs < 10 ^ 19 by omega) (Nat.pow_le_pow_right (by decide) (by decide))
theorem made_size {x : Int} {k : Nat} (h : x.natAbs < 10 ^ k) (hk : k ≤ 200) : (textI x).size ≤ 1000 := fits_size (show x.natAbs < 10 ^ 200 from Nat.lt_of_lt_of_le h (Nat.pow_le_pow_right (by decide) hk))
theorem six_cells (w : World) (a b c d e f : ByteArray) (t : TypeId) : ∃ W0, w.alloc (.cells #[.string a, .string b, .string c, .string d, .string e, .string f] t) = W0 ∧ Below w.heap.size w W0 ∧ w.heap.size < W0.heap.size ∧
    ∀ W, Below W0.heap.size W0 W → ∀ k : Nat, k < 3 → ∃ x y : ByteArray, (x = a ∧ y = b ∨ x = c ∧ y = d ∨ x = e ∧ y = f) ∧ W.cell? ⟨w.heap.size, 2 * k, none⟩ = some (.string x) ∧ W.cell? ⟨w.heap.size, 2 * k + 1, none⟩ = some (.string y) := by
  refine ⟨_, rfl, (Below.refl _ _).alloc (Nat.le_refl _) _, by simp, fun W hb k hk => ?_⟩
  have hh := (hb.block w.heap.size (by simp)).trans (heap_alloc_new w (.cells #[.string a, .string b, .string c, .string d, .string e, .string f] t))
  have : k = 0 ∨ k = 1 ∨ k = 2 := by omega
  rcases this with rfl | rfl | rfl
  · exact ⟨a, b, .inl ⟨rfl, rfl⟩, by simp [World.cell?, hh], by simp [World.cell?, hh]⟩
  · exact ⟨c, d, .inr (.inl ⟨rfl, rfl⟩), by simp [World.cell?, hh], by simp [World.cell?, hh]⟩
  · exact ⟨e, f, .inr (.inr ⟨rfl, rfl⟩), by simp [World.cell?, hh], by simp [World.cell?, hh]⟩
theorem pairs_elem : Tryz.prog.underlying 26 = some (.slice (Tryz.prog.elem 26)) := by kernel_rfl
theorem pairs_size (w : World) : (Go.sizeOf (Tryz.prog.elem 26)).run Tryz.prog w = .ok 2 w := by kernel_rfl
theorem at_pair (g k : Nat) (hk : k < 3) (w : World) : (Instr.indexAt 26 (.slice (some ⟨g, 0, none⟩) 3 3) (.int .i64 (k : Int))).run Tryz.prog w = .ok (.pointer (some ⟨g, 2 * k, none⟩)) w := by
  rw [run_indexAt_slice w 26 _ _ _ _ _ pairs_elem, if_pos (by omega)]
  simp [pairs_size, add_at, Result.andThen]

set_option maxRecDepth 100000 in
set_option maxHeartbeats 16000000 in
theorem integerMatches_walk (a : ByteArray) (b : ByteArray) (n : Int) (ha : a.size ≤ maxLen) (hb : b.size ≤ maxLen) (hn0 : -9223372036854775808 ≤ n) (hn1 : n ≤ 9223372036854775807) (w : World) (hR : Ready w) (hE : ErrR w) :
    Calls Tryz.prog 3 #[.string a, .string b, .int .i64 n] w fun e w' => e = .returned (.bool true) ∧ Below w.heap.size w w' := by
  unfold maxLen at ha hb
  have B0 := Lib.hid (Below.refl w.heap.size w)
  have HR0 := Lib.hid hR; have HE0 := Lib.hid hE
  clear hR hE
  obtain ⟨p, hp⟩ : ∃ t, a.extract 0 (min (a.size : Int) 210).toNat = t := ⟨_, rfl⟩
  obtain ⟨q, hq⟩ : ∃ t, b.extract 0 (min (b.size : Int) 210).toNat = t := ⟨_, rfl⟩
  have hps : p.size ≤ 210 := by rw [← hp, ByteArray.size_extract]; omega
  have hqs : q.size ≤ 210 := by rw [← hq, ByteArray.size_extract]; omega
  have hFs := word_size hn0 hn1
  have cf := fun W hW => from_i n hn0 hn1 W hW
  have df := fun W => fromR_any n hn0 hn1 W
  obtain ⟨F, hF⟩ : ∃ t, textI n = t := ⟨_, rfl⟩
  rw [hF] at hFs cf df
  have CF := Lib.hid cf; have DF := Lib.hid df; have HP := Lib.hid hp; have HQ := Lib.hid hq
  clear cf df hp hq hF
  go_enter Tryz.func3, Tryz.ntmps3
  go_wp2_with fail
  refine (sane_any _ (HR0.out.below B0.out)).mono ?_
  rintro e w1 ⟨rfl, b1⟩
  have B1 := Lib.hid (B0.out.trans (b1.mono B0.out.size))
  clear b1 B0
  go_wp2_with fail
  rw [HP.out]
  refine (made_any p (by unfold maxLen; omega) 70 (by decide) _).mono ?_
  rintro e w2 ⟨x, hx, rfl, b2⟩
  have B2 := Lib.hid (B1.out.trans (b2.mono B1.out.size))
  have hxs := made_size hx (by decide)
  clear b2 B1
  generalize textI x = X at *
  go_wp2_with fail
  rw [HQ.out]
  refine (made_any q (by unfold maxLen; omega) 30 (by decide) _).mono ?_
  rintro e w3 ⟨y, hy, rfl, b3⟩
  have B3 := Lib.hid (B2.out.trans (b3.mono B2.out.size))
  have hys := made_size hy (by decide)
  clear b3 B2
  generalize textI y = Y at *
  go_wp2_with fail
  refine (made_any p (by unfold maxLen; omega) 12 (by decide) _).mono ?_
  rintro e w4 ⟨z, hz, rfl, b4⟩
  have B4 := Lib.hid (B3.out.trans (b4.mono B3.out.size))
  have hzs := made_size hz (by decide)
  clear b4 B3
  generalize textI z = Z at *
  go_wp2_with fail
  refine (DF.out _).mono ?_
  rintro e w5 ⟨rfl, b5⟩
  have B5 := Lib.hid (B4.out.trans (b5.mono B4.out.size))
  clear b5 B4
  obtain ⟨W0, hW0, hbW, hlt, hsix⟩ := six_cells w5 p q X Y Z F 23
  have HW0 := Lib.hid hW0; have HSIX := Lib.hid hsix; have BW := Lib.hid (below_of B5.out hbW); have HLT := Lib.hid hlt
  clear hW0 hsix hbW hlt hx hy hz
  go_wp2_with (rw [HW0.out])
  go_loopw [50] (fun v wr => ∃ k : Nat, k ≤ 3 ∧ v = .int .i64 (k : Int) ∧ Hid (Below W0.heap.size W0 wr)) (fun v _ => 3 - (RowKit.intOf v).toNat)
  case atStart => exact ⟨0, by omega, rfl, Below.refl _ _⟩
  case round =>
    obtain ⟨k, hk, rfl, hbr⟩ := hrel
    by_cases hk3 : k < 3
    · have hki : (k : Int) < 3 := by omega
      obtain ⟨S, T, hST, ccS, ccT⟩ := HSIX.out wr hbr.out k hk3
      have hS : S.size ≤ 1000 := by rcases hST with ⟨rfl, _⟩ | ⟨rfl, _⟩ | ⟨rfl, _⟩ <;> omega
      have hT : T.size ≤ 1000 := by rcases hST with ⟨_, rfl⟩ | ⟨_, rfl⟩ | ⟨_, rfl⟩ <;> omega
      clear hST
      have hix := fun w => at_pair w5.heap.size k hk3 w
      have HIX := Lib.hid hix
      obtain ⟨W1, hW1⟩ : ∃ W1, wr.alloc (.cells #[.string S, .string T] 23) = W1 := ⟨_, rfl⟩
      have hb1 : Below wr.heap.size wr W1 := by rw [← hW1]; exact (Below.refl _ _).alloc (Nat.le_refl _) _
      have hk1 : W1.heap[wr.heap.size]? = some (.cells #[.string S, .string T] 23) := by rw [← hW1]; exact heap_alloc_new _ _
      have hcc : ∀ W, Below W1.heap.size W1 W → W.cell? ⟨wr.heap.size, 0, none⟩ = some (.string S) ∧ W.cell? ⟨wr.heap.size, 1, none⟩ = some (.string T) := fun W b => by
        have := (b.block wr.heap.size (Array.getElem?_eq_some_iff.1 hk1).1).trans hk1
        exact ⟨by simp [World.cell?, this], by simp [World.cell?, this]⟩
      obtain ⟨ca0, cb0⟩ := hcc W1 (Below.refl _ _)
      have P0 := Lib.hid (Below.refl W1.heap.size W1)
      have HC := Lib.hid hcc; have HW1 := Lib.hid hW1
      have HB1 := Lib.hid (below_of (below_of BW.out hbr.out) hb1)
      have HBR := Lib.hid (below_of hbr.out hb1)
      clear hcc hW1 hb1 hk1 hbr

      have c1 := fun W hW => add_i S T (by omega) (by omega) W hW
      have d1 := fun W => addR_any S T (by omega) (by omega) W
      obtain ⟨T1, hT1⟩ : ∃ t, opT (· + ·) S T = t := ⟨_, rfl⟩
      obtain ⟨Z1, hZ1⟩ : ∃ t, opZ (· + ·) S T = t := ⟨_, rfl⟩
      rw [hT1, hZ1] at c1 d1
      have C1 := Lib.hid c1; have D1 := Lib.hid d1
      clear c1 d1 hT1 hZ1
      have c2 := fun W hW => sub_i S T (by omega) (by omega) W hW
      have d2 := fun W => subR_any S T (by omega) (by omega) W
      obtain ⟨T2, hT2⟩ : ∃ t, opT (· - ·) S T = t := ⟨_, rfl⟩
      obtain ⟨Z2, hZ2⟩ : ∃ t, opZ (· - ·) S T = t := ⟨_, rfl⟩
      rw [hT2, hZ2] at c2 d2
      have C2 := Lib.hid c2; have D2 := Lib.hid d2
      clear c2 d2 hT2 hZ2
      have c3 := fun W hW => mul_i S T (by omega) (by omega) W hW
      have d3 := fun W => mulR_any S T (by omega) (by omega) W
      obtain ⟨T3, hT3⟩ : ∃ t, opT (· * ·) S T = t := ⟨_, rfl⟩
      obtain ⟨Z3, hZ3⟩ : ∃ t, opZ (· * ·) S T = t := ⟨_, rfl⟩
      rw [hT3, hZ3] at c3 d3
      have C3 := Lib.hid c3; have D3 := Lib.hid d3
      clear c3 d3 hT3 hZ3
      have c4 := fun W hW => gcd_i S T (by omega) (by omega) W hW
      have d4 := fun W => gcdR_any S T (by omega) (by omega) W
      obtain ⟨T4, hT4⟩ : ∃ t, opT gcdI S T = t := ⟨_, rfl⟩
      obtain ⟨Z4, hZ4⟩ : ∃ t, opZ gcdI S T = t := ⟨_, rfl⟩
      rw [hT4, hZ4] at c4 d4
      have C4 := Lib.hid c4; have D4 := Lib.hid d4
      clear c4 d4 hT4 hZ4
      have c5 := fun W hW => div_i S T (by omega) (by omega) W hW
      have d5 := fun W => divR_any S T (by omega) (by omega) W
      obtain ⟨T5, hT5⟩ : ∃ t, divQ S T = t := ⟨_, rfl⟩
      obtain ⟨U5, hU5⟩ : ∃ t, divR S T = t := ⟨_, rfl⟩
      obtain ⟨Z5, hZ5⟩ : ∃ t, divZ S T = t := ⟨_, rfl⟩
      rw [hT5, hU5, hZ5] at c5 d5
      have C5 := Lib.hid c5; have D5 := Lib.hid d5
      clear c5 d5 hT5 hU5 hZ5
      obtain ⟨T6, Z6, c6, d6⟩ := root_both S (by omega)
      have C6 := Lib.hid c6; have D6 := Lib.hid d6
      clear c6 d6
      have c7 := fun W hW => to_i S (by omega) W hW
      have d7 := fun W => toR_any S (by omega) W
      obtain ⟨T7, hT7⟩ : ∃ t, toT S = t := ⟨_, rfl⟩
      obtain ⟨Z7, hZ7⟩ : ∃ t, toZ S = t := ⟨_, rfl⟩
      rw [hT7, hZ7] at c7 d7
      have C7 := Lib.hid c7; have D7 := Lib.hid d7
      clear c7 d7 hT7 hZ7
      have c8 := fun W hW => valid_i S (by omega) W hW
      have d8 := fun W => valid_any S (by omega) W
      obtain ⟨T8, hT8⟩ : ∃ t, validB S = t := ⟨_, rfl⟩
      rw [hT8] at c8 d8
      have C8 := Lib.hid c8; have D8 := Lib.hid d8
      clear c8 d8 hT8
      have c9 := fun W hW => cmp_i S T (by omega) (by omega) W hW
      have d9 := fun W => cmpR_any S T (by omega) (by omega) W
      obtain ⟨T9, hT9⟩ : ∃ t, cmpB S T = t := ⟨_, rfl⟩
      rw [hT9] at c9 d9
      have C9 := Lib.hid c9; have D9 := Lib.hid d9
      clear c9 d9 hT9
      have HR1 := Lib.hid (HR0.out.below HB1.out); have HE1 := Lib.hid (HE0.out.below HB1.out)
      go_wp2_with (rw [HW1.out])
      refine (C1.out _ (HR1.out.below P0.out)).mono ?_
      rintro e w10 ⟨rfl, b10⟩
      have P1 := Lib.hid (below_of P0.out b10)
      obtain ⟨ca1, cb1⟩ := HC.out _ P1.out
      clear b10 P0 ca0 cb0 C1
      go_wp2_with fail
      refine (D1.out _).mono ?_
      rintro e w11 ⟨rfl, b11⟩
      have P2 := Lib.hid (below_of P1.out b11)
      obtain ⟨ca2, cb2⟩ := HC.out _ P2.out
      clear b11 P1 ca1 cb1 D1
      go_wp2_with fail
      refine (C2.out _ (HR1.out.below P2.out)).mono ?_
      rintro e w12 ⟨rfl, b12⟩
      have P3 := Lib.hid (below_of P2.out b12)
      obtain ⟨ca3, cb3⟩ := HC.out _ P3.out
      clear b12 P2 ca2 cb2 C2
      go_wp2_with fail
      refine (D2.out _).mono ?_
      rintro e w13 ⟨rfl, b13⟩
      have P4 := Lib.hid (below_of P3.out b13)
      obtain ⟨ca4, cb4⟩ := HC.out _ P4.out
      clear b13 P3 ca3 cb3 D2
      go_wp2_with fail
      refine (C3.out _ (HR1.out.below P4.out)).mono ?_
      rintro e w14 ⟨rfl, b14⟩
      have P5 := Lib.hid (below_of P4.out b14)
      obtain ⟨ca5, cb5⟩ := HC.out _ P5.out
      clear b14 P4 ca4 cb4 C3
      go_wp2_with fail
      refine (D3.out _).mono ?_
      rintro e w15 ⟨rfl, b15⟩
      have P6 := Lib.hid (below_of P5.out b15)
      obtain ⟨ca6, cb6⟩ := HC.out _ P6.out
      clear b15 P5 ca5 cb5 D3
      go_wp2_with fail
      refine (C5.out _ (HR1.out.below P6.out)).mono ?_
      rintro e w16 ⟨rfl, b16⟩
      have P7 := Lib.hid (below_of P6.out b16)
      obtain ⟨ca7, cb7⟩ := HC.out _ P7.out
      clear b16 P6 ca6 cb6 C5
      go_wp2_with fail
      refine (D5.out _).mono ?_
      rintro e w17 ⟨rfl, b17⟩
      have P8 := Lib.hid (below_of P7.out b17)
      obtain ⟨ca8, cb8⟩ := HC.out _ P8.out
      clear b17 P7 ca7 cb7 D5
      go_wp2_with fail
      refine (C4.out _ (HR1.out.below P8.out)).mono ?_
      rintro e w18 ⟨rfl, b18⟩
      have P9 := Lib.hid (below_of P8.out b18)
      obtain ⟨ca9, cb9⟩ := HC.out _ P9.out
      clear b18 P8 ca8 cb8 C4
      go_wp2_with fail
      refine (D4.out _).mono ?_
      rintro e w19 ⟨rfl, b19⟩
      have P10 := Lib.hid (below_of P9.out b19)
      obtain ⟨ca10, cb10⟩ := HC.out _ P10.out
      clear b19 P9 ca9 cb9 D4
      go_wp2_with fail
      refine (C6.out _ (HR1.out.below P10.out)).mono ?_
      rintro e w20 ⟨rfl, b20⟩
      have P11 := Lib.hid (below_of P10.out b20)
      obtain ⟨ca11, cb11⟩ := HC.out _ P11.out
      clear b20 P10 ca10 cb10 C6
      go_wp2_with fail
      refine (D6.out _).mono ?_
      rintro e w21 ⟨rfl, b21⟩
      have P12 := Lib.hid (below_of P11.out b21)
      obtain ⟨ca12, cb12⟩ := HC.out _ P12.out
      clear b21 P11 ca11 cb11 D6
      go_wp2_with fail
      refine (C7.out _ (HE1.out.below P12.out)).mono ?_
      rintro e w22 ⟨rfl, b22⟩
      have P13 := Lib.hid (below_of P12.out b22)
      obtain ⟨ca13, cb13⟩ := HC.out _ P13.out
      clear b22 P12 ca12 cb12 C7
      go_wp2_with fail
      refine (D7.out _).mono ?_
      rintro e w23 ⟨rfl, b23⟩
      have P14 := Lib.hid (below_of P13.out b23)
      obtain ⟨ca14, cb14⟩ := HC.out _ P14.out
      clear b23 P13 ca13 cb13 D7
      go_wp2_with fail
      have K8 := Lib.hid (fun W (b : Below W1.heap.size W1 W) => C8.out W (HR1.out.below b))
      have K9 := Lib.hid (fun W (b : Below W1.heap.size W1 W) => C9.out W (HR1.out.below b))
      clear C8 C9
      go_region_held3 (fun W => W.cell? ⟨wr.heap.size, 0, none⟩ = some (.string S) ∧ W.cell? ⟨wr.heap.size, 1, none⟩ = some (.string T))
        (first | exact HC.out _ ⟨P14.out.os, P14.out.tape, P14.out.output, P14.out.size, P14.out.block⟩ | exact HC.out _ hbD | exact HC.out _ hbC | exact HC.out _ hbA)
        (first | (go_at_call 21; (with_reducible refine (K8.out _ ?_).mono ?_); exact ⟨P14.out.os, P14.out.tape, P14.out.output, P14.out.size, P14.out.block⟩; (rintro e wA ⟨rfl, hbA'⟩); have hbA := below_of P14.out ⟨hbA'.os, hbA'.tape, hbA'.output, hbA'.size, hbA'.block⟩) | (go_at_call 22; (with_reducible refine (D8.out _).mono ?_); (rintro e wB ⟨rfl, rfl⟩)) | (go_at_call 23; (with_reducible refine (K9.out _ ?_).mono ?_); exact hbA; (rintro e wC ⟨rfl, hbC'⟩); have hbC := below_of hbA ⟨hbC'.os, hbC'.tape, hbC'.output, hbC'.size, hbC'.block⟩) | (go_at_call 24; (with_reducible refine (D9.out _).mono ?_); (rintro e wD ⟨rfl, hbD'⟩); have hbD := below_of hbC ⟨hbD'.os, hbD'.tape, hbD'.output, hbD'.size, hbD'.block⟩))
      all_goals (
        go_wp2
        go_roundw
        case rel => exact ⟨k + 1, by omega, by go_num, below_of HBR.out hbD⟩
        case measure => simp [RowKit.intOf]; omega)
    · have hki : ¬ (k : Int) < 3 := by omega
      obtain rfl : k = 3 := by omega
      have B6 := Lib.hid (below_of BW.out hbr.out)
      clear hbr
      go_wp2_with fail
      refine (CF.out _ (HR0.out.below B6.out)).mono ?_
      rintro e w6 ⟨rfl, b6⟩
      have B7 := Lib.hid (below_of B6.out b6)
      clear b6 B6 CF
      go_wp2_with fail
      refine (DF.out _).mono ?_
      rintro e w7 ⟨rfl, b7⟩
      have B8 := Lib.hid (below_of B7.out b7)
      clear b7 B7 DF
      go_wp2_with fail
      go_ret
      exact ⟨rfl, B8.out⟩
end Go.Proofs.YtildgpahacaglaaGreatDoor
