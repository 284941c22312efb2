/-
  WireTruncated returns true for all arguments: the walk.
-/
import Derived.Test.YtkilmnhciigkcaaDoorSane
namespace Go.Proofs.YtkilmnhciigkcaaDoor
open Go Go.Proofs Go.RowKit Go.Lib

/-- The bytes of an encoding. -/
theorem encS_data (x : Int) : (encS x).data.toList = uvarint (zigzag x) := rfl
theorem encS_pos (x : Int) : 1 ≤ (encS x).size := by rw [encS_size]; exact digs_pos _
/-- No proper beginning of an integer's encoding is accepted. -/
theorem trunc_int {x : Int} (h0 : -4611686018427387903 ≤ x) (h1 : x ≤ 4611686018427387903) {k : Nat} (hk : k < (encS x).size) :
    scan 0 0 (((encS x).extract 0 k).data.toList.drop 0) = none := by
  rw [List.drop_zero, extract_take, encS_data]
  exact scan_short (zigzag_le h0 h1) (by rw [encS_size, ← uvarint_size] at hk; exact hk)

/-- Of a proper beginning of a string's encoding: no integer, or a length that is too great. -/
theorem trunc_string (s : ByteArray) (hs : s.size ≤ 65536) {k : Nat} (hk : k < (encS (s.size : Int) ++ s).size) :
    scan 0 0 (((encS (s.size : Int) ++ s).extract 0 k).data.toList.drop 0) = none ∨
    ∃ n, scan 0 0 (((encS (s.size : Int) ++ s).extract 0 k).data.toList.drop 0) = some (zigzag (s.size : Int), n) ∧ (k : Int) - (n : Int) < (s.size : Int) := by
  rw [List.drop_zero, extract_take, append_data, encS_data]
  have hz := zigzag_le (x := (s.size : Int)) (by omega) (by omega)
  have hk' : k < (encS (s.size : Int)).size + s.size := by simpa using hk
  have hes : (encS (s.size : Int)).size = (uvarint (zigzag (s.size : Int))).length := by rw [encS_size, uvarint_size]
  by_cases h : k < (uvarint (zigzag (s.size : Int))).length
  · left
    rw [List.take_append_of_le_length (by omega)]
    exact scan_short hz h
  · right
    rw [List.take_append, List.take_of_length_le (by omega)]
    exact ⟨_, scan_of_enc hz _, by omega⟩

theorem trunc_int_calls {x : Int} (h0 : -4611686018427387903 ≤ x) (h1 : x ≤ 4611686018427387903) {k : Nat} (hk : k < (encS x).size) (A : ByteArray) (hA : (encS x).extract 0 k = A) (w : World) :
    Calls Tryd.prog 15 #[.string A, .int .i64 0] w fun e w' => e = .returned (.tuple #[.int .i64 0, .int .i64 0, .int .i64 10]) ∧ w = w' := by
  subst hA
  have h9 := encS_size_le x h0 h1
  exact int_none ((encS x).extract 0 k) (by simp [maxLen]; omega) 0 (by omega) (trunc_int h0 h1 hk) w
theorem trunc_string_calls (s : ByteArray) (hs : s.size ≤ 65536) {k : Nat} (hk : k < (encS (s.size : Int) ++ s).size) (T : ByteArray) (hT : (encS (s.size : Int) ++ s).extract 0 k = T) (w : World) :
    Calls Tryd.prog 17 #[.string T, .int .i64 0] w fun e w' => e = .returned (.tuple #[.string ByteArray.empty, .int .i64 0, .int .i64 10]) ∧ w = w' := by
  have h9 := encS_size_le (s.size : Int) (by omega) (by omega)
  have hsz : T.size = k := by rw [← hT]; simp at hk ⊢; omega
  have hk2 : k < (encS (s.size : Int)).size + s.size := by simpa using hk
  rcases trunc_string s hs hk with h | ⟨n, h, hn⟩
  · rw [hT] at h
    exact string_none T (by unfold maxLen; omega) 0 (by omega) h w
  · rw [hT] at h
    exact string_bad T (by unfold maxLen; omega) 0 (by omega) _ n h (by rw [unz_zigzag, hsz]; omega) w

/-- One encoding is a beginning of another only if the numbers are equal. -/
theorem enc_prefix {x y : Int} (x0 : -4611686018427387903 ≤ x) (x1 : x ≤ 4611686018427387903) (y0 : -4611686018427387903 ≤ y) (y1 : y ≤ 4611686018427387903)
    (h : ((encS y).extract 0 (encS x).size).data.toList = (encS x).data.toList) : x = y := by
  rw [extract_take, encS_data, encS_data] at h
  have hp : uvarint (zigzag x) <+: uvarint (zigzag y) ++ [] := by
    rw [List.append_nil, ← h]; exact List.take_prefix _ _
  have := uvarint_prefix (zigzag_le x0 x1) (zigzag_le y0 y1) hp
  rw [← unz_zigzag x, this, unz_zigzag]

set_option maxRecDepth 100000 in
set_option maxHeartbeats 4000000 in
theorem truncated_walk (c d a : Int) (text : ByteArray) (c0 : -9223372036854775808 ≤ c) (c1 : c ≤ 9223372036854775807) (d0 : -9223372036854775808 ≤ d) (d1 : d ≤ 9223372036854775807)
    (a0 : -9223372036854775808 ≤ a) (a1 : a ≤ 9223372036854775807) (ht : text.size ≤ maxLen) (w : World) (hT : HasTab w) (h0 : 0 < w.heap.size) :
    Calls Tryd.prog 7 #[.int .i64 c, .int .i64 d, .string text, .int .i64 a] w fun e w' => e = .returned (.bool true) ∧ Below w.heap.size w w' := by
  unfold maxLen at ht
  obtain ⟨x, hx⟩ : ∃ x, numF c = x := ⟨_, rfl⟩
  obtain ⟨y, hy⟩ : ∃ y, numF d = y := ⟨_, rfl⟩
  have hxr := numF_range c
  have hyr := numF_range d
  rw [hx] at hxr
  rw [hy] at hyr
  obtain ⟨x0, x1⟩ := hxr
  obtain ⟨y0, y1⟩ := hyr
  obtain ⟨m, hm⟩ : ∃ m, m = min text.size 200 := ⟨_, rfl⟩
  have hm1 : m ≤ 200 := by omega
  have hm2 : m ≤ text.size := by omega
  have hmn2 : min (text.size : Int) 200 = (m : Int) := by omega
  have hmn : (if (200 : Int) < (text.size : Int) then (200 : Int) else (text.size : Int)) = (m : Int) := by split <;> omega
  have HX := Lib.hid hx; have HY := Lib.hid hy; have HM := Lib.hid hm
  clear hx hy hm
  obtain ⟨t, hts⟩ : ∃ t, text.extract 0 m = t := ⟨_, rfl⟩
  have htz : t.size = m := by rw [← hts]; simp; omega
  have hsl1 := fun w' => slice_to (P := Tryd.prog) 9 Tryd.underlying9 text (m : Int) m rfl hm2 t hts w'
  have HTS := Lib.hid hts
  have htz2 : t.size ≤ 200 := by omega
  clear hts htz
  go_enter Tryd.func7, Tryd.ntmps7
  go_wp2_with fail
  refine (sane_any _ hT h0).mono ?_
  rintro e w1 ⟨rfl, b1⟩
  go_wp2_with fail
  refine (number_any c c0 c1 _).mono ?_
  rw [HX.out]
  rintro e w2 ⟨rfl, b2⟩
  go_wp2_with fail
  refine (putInt_yes x (by omega) (by omega) _).mono ?_
  rintro e w3 ⟨rfl, b3⟩
  go_wp2_with fail
  refine (number_any d d0 d1 _).mono ?_
  rw [HY.out]
  rintro e w4 ⟨rfl, b4⟩
  go_wp2_with fail
  refine (putInt_yes y (by omega) (by omega) _).mono ?_
  rintro e w5 ⟨rfl, b5⟩
  go_wp2_with fail
  refine (putString_ok t (by omega) _).mono ?_
  rintro e w6 ⟨rfl, b6⟩
  have px := encS_pos x
  have pt : 1 ≤ (encS (t.size : Int) ++ t).size := by have := encS_pos (t.size : Int); simp; omega
  have lx := encS_size_le x (by omega) (by omega)
  have lt9 : (encS (t.size : Int) ++ t).size ≤ 209 := by have := encS_size_le (t.size : Int) (by omega) (by omega); simp; omega
  obtain ⟨A, hA⟩ : ∃ A, encS x = A := ⟨_, rfl⟩
  obtain ⟨T, hT2⟩ : ∃ T, encS (t.size : Int) ++ t = T := ⟨_, rfl⟩
  rw [hA] at px lx ⊢
  rw [hT2] at pt lt9 ⊢
  have HA := Lib.hid hA; have HT2 := Lib.hid hT2
  clear hA hT2
  have px2 : (A.size == 0) = false := by rw [beq_eq_false_iff_ne]; omega
  have px3 : ((A.size : Int) == 0) = false := by rw [beq_eq_false_iff_ne]; omega
  have pt2 : (T.size == 0) = false := by rw [beq_eq_false_iff_ne]; omega
  have pt3 : ((T.size : Int) == 0) = false := by rw [beq_eq_false_iff_ne]; omega
  obtain ⟨j, hj⟩ : ∃ j : Nat, pickI a (A.size : Int) = (j : Int) := Int.eq_ofNat_of_zero_le (pickI_lo (by omega))
  have hj2 : j < A.size := by have := pickI_hi (c := a) (n := (A.size : Int)) (by omega); omega
  obtain ⟨k, hk⟩ : ∃ k : Nat, pickI a (T.size : Int) = (k : Int) := Int.eq_ofNat_of_zero_le (pickI_lo (by omega))
  have hk2 : k < T.size := by have := pickI_hi (c := a) (n := (T.size : Int)) (by omega); omega
  obtain ⟨A1, hA1⟩ : ∃ r, A.extract 0 j = r := ⟨_, rfl⟩
  obtain ⟨T1, hT1⟩ : ∃ r, T.extract 0 k = r := ⟨_, rfl⟩
  have hslA := fun w' => slice_to (P := Tryd.prog) 9 Tryd.underlying9 A (j : Int) j rfl (by omega) A1 hA1 w'
  have hslT := fun w' => slice_to (P := Tryd.prog) 9 Tryd.underlying9 T (k : Int) k rfl (by omega) T1 hT1 w'
  have cA := fun w' => trunc_int_calls (x := x) (by omega) (by omega) (k := j) (by rw [HA.out]; exact hj2) A1 (by rw [HA.out]; exact hA1) w'
  have cT := fun w' => trunc_string_calls t (by omega) (k := k) (by rw [HT2.out]; exact hk2) T1 (by rw [HT2.out]; exact hT1) w'
  have CA := Lib.hid cA; have CT := Lib.hid cT; have HJ := Lib.hid hj; have HK := Lib.hid hk
  clear cA cT hj hk hA1 hT1
  go_wp2_with fail
  refine (pick_any a (A.size : Int) a0 a1 (by omega) (by omega) _).mono ?_
  rw [HJ.out]
  rintro e w7 ⟨rfl, rfl⟩
  go_wp2_with fail
  refine (CA.out _).mono ?_
  rintro e w7 ⟨rfl, rfl⟩
  go_wp2_with fail
  refine (pick_any a (T.size : Int) a0 a1 (by omega) (by omega) _).mono ?_
  rw [HK.out]
  rintro e w7 ⟨rfl, rfl⟩
  go_wp2_with fail
  refine (CT.out _).mono ?_
  rintro e w7 ⟨rfl, rfl⟩
  have hb : Below w.heap.size w w6 := b1.trans ((b2.mono b1.size).trans ((b3.mono (by have := b1.size; have := b2.size; omega)).trans ((b4.mono (by have := b1.size; have := b2.size; have := b3.size; omega)).trans ((b5.mono (by have := b1.size; have := b2.size; have := b3.size; have := b4.size; omega)).trans (b6.mono (by have := b1.size; have := b2.size; have := b3.size; have := b4.size; have := b5.size; omega))))))
  by_cases hxy : x = y
  · subst hxy
    rw [HA.out]
    have hsl2 := fun w' => slice_to (P := Tryd.prog) 9 Tryd.underlying9 A (A.size : Int) A.size rfl (Nat.le_refl _) A (by simp) w'
    go_wp2_with fail
    refine (number_any c c0 c1 _).mono ?_
    rw [HX.out]
    rintro e w8 ⟨rfl, b8⟩
    go_wp2_with fail
    refine (number_any d d0 d1 _).mono ?_
    rw [HY.out]
    rintro e w9 ⟨rfl, b9⟩
    go_wp2
    go_ret
    exact ⟨rfl, (hb.trans (b8.mono hb.size)).trans (b9.mono (Nat.le_trans hb.size b8.size))⟩
  · obtain ⟨B, hB⟩ : ∃ B, encS y = B := ⟨_, rfl⟩
    have lB := encS_size_le y (by omega) (by omega)
    rw [hB] at lB ⊢
    have hne : ¬ B.extract 0 A.size = A := fun h => hxy (enc_prefix (x := x) (y := y) (by omega) (by omega) (by omega) (by omega) (by rw [HA.out, hB, h]))
    have hxyb : (x == y) = false := by rw [beq_eq_false_iff_ne]; exact hxy
    have HXY := Lib.hid hxy
    clear hB hxy
    by_cases hle : A.size ≤ B.size
    · obtain ⟨P, hP⟩ : ∃ P, B.extract 0 A.size = P := ⟨_, rfl⟩
      rw [hP] at hne
      have hsl2 := fun w' => slice_to (P := Tryd.prog) 9 Tryd.underlying9 B (A.size : Int) A.size rfl hle P hP w'
      have hneb := str_ne hne
      clear hP hne
      go_wp2_with fail
      refine (number_any c c0 c1 _).mono ?_
      rw [HX.out]
      rintro e w8 ⟨rfl, b8⟩
      go_wp2_with fail
      refine (number_any d d0 d1 _).mono ?_
      rw [HY.out]
      rintro e w9 ⟨rfl, b9⟩
      go_wp2
      go_ret
      exact ⟨rfl, (hb.trans (b8.mono hb.size)).trans (b9.mono (Nat.le_trans hb.size b8.size))⟩
    · clear hne
      go_wp2_with fail
      refine (number_any c c0 c1 _).mono ?_
      rw [HX.out]
      rintro e w8 ⟨rfl, b8⟩
      go_wp2_with fail
      refine (number_any d d0 d1 _).mono ?_
      rw [HY.out]
      rintro e w9 ⟨rfl, b9⟩
      go_wp2
      go_ret
      exact ⟨rfl, (hb.trans (b8.mono hb.size)).trans (b9.mono (Nat.le_trans hb.size b8.size))⟩
theorem truncated_walk0 (c d : Int) (text : ByteArray) (a : Int) (c0 : -9223372036854775808 ≤ c) (c1 : c ≤ 9223372036854775807) (d0 : -9223372036854775808 ≤ d) (d1 : d ≤ 9223372036854775807)
    (ht : text.size ≤ maxLen) (a0 : -9223372036854775808 ≤ a) (a1 : a ≤ 9223372036854775807) (w : World) (hT : HasTab w) (h0 : 0 < w.heap.size) :
    Calls Tryd.prog 7 #[.int .i64 c, .int .i64 d, .string text, .int .i64 a] w fun e w' => e = .returned (.bool true) ∧ Below w.heap.size w w' :=
  truncated_walk c d a text c0 c1 d0 d1 a0 a1 ht w hT h0
end Go.Proofs.YtkilmnhciigkcaaDoor
