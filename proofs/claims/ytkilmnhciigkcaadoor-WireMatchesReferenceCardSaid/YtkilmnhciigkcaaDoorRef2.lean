/-
  The contracts of the reference implementation's Int, PutString and String.
-/
import Derived.Test.YtkilmnhciigkcaaDoorRef1
import Derived.Test.YtkilmnhciigkcaaDoorSane
namespace Go.Proofs.YtkilmnhciigkcaaDoor
open Go Go.Proofs Go.RowKit Go.Lib

theorem refInt_arg (s : ByteArray) (a : Int) (h : a < 0 ∨ (s.size : Int) < a) (w : World) :
    Calls Tryd.prog 16 #[.string s, .int .i64 a] w fun e w' => e = .returned (.tuple #[.int .i64 0, .int .i64 0, .int .i64 2]) ∧ w = w' := by
  rcases h with h | h
  · go_enter Tryd.func16, Tryd.ntmps16
    go_wp2
    go_ret3
    exact ⟨rfl, rfl⟩
  · have h' : ¬ a < 0 := by omega
    go_enter Tryd.func16, Tryd.ntmps16
    go_wp2
    go_ret3
    exact ⟨rfl, rfl⟩

/-- The bytes read are those of the number's encoding exactly if they are an encoding. -/
theorem ref_same (s : ByteArray) (L : List UInt8) (hL : s.data.toList = L) (p k Z : Nat) (hz : Z ≤ maxZ) {E X : ByteArray} (hE : encS (unz Z) = E) (hX : s.extract p (p + k + 1) = X)
    {c : Prop} [Decidable c] (h : scan 0 0 (L.drop p) = if c then none else some (Z, k + 1)) :
    (E = X → scan 0 0 (L.drop p) = some (Z, k + 1)) ∧ (¬ E = X → scan 0 0 (L.drop p) = none) := by
  subst hE hX hL
  have hX : (s.extract p (p + k + 1)).data.toList = (s.data.toList.drop p).take (k + 1) := by
    rw [Lib.extract_data]; simp; congr 1; omega
  have hE : (encS (unz Z)).data.toList = uvarint Z := by
    show uvarint (zigzag (unz Z)) = _
    rw [zigzag_unz]
  constructor
  · intro e
    have e2 := congrArg (fun b => b.data.toList) e
    simp only [hX, hE] at e2
    have e3 : s.data.toList.drop p = uvarint Z ++ (s.data.toList.drop p).drop (k + 1) := by rw [e2, List.take_append_drop]
    have e4 := scan_of_enc hz ((s.data.toList.drop p).drop (k + 1))
    rw [← e3] at e4
    by_cases hc : c
    · rw [if_pos hc, e4] at h; cases h
    · rw [if_neg hc] at h; exact h
  · intro e
    by_cases hc : c
    · rw [if_pos hc] at h; exact h
    · rw [if_neg hc] at h
      obtain ⟨_, hn, hp⟩ := scan_is_enc h
      exact absurd (bytes_ext (by rw [hX, hE, hn]; exact List.prefix_iff_eq_take.1 hp)) e

set_option maxRecDepth 100000 in
set_option maxHeartbeats 1000000 in
theorem refInt_any (s : ByteArray) (hs : s.size ≤ 281474976710656) (p : Nat) (hp : p ≤ s.size) (w : World) :
    Calls Tryd.prog 16 #[.string s, .int .i64 (p : Nat)] w fun e w' => e = .returned (intOut p (scan 0 0 (s.data.toList.drop p))) ∧ Below w.heap.size w w' := by
  have hp2 : ¬ (s.size : Int) < (p : Int) := by omega
  have hp3 : ¬ (p : Int) < 0 := by omega
  obtain ⟨L, hL⟩ : ∃ L, s.data.toList = L := ⟨_, rfl⟩
  rw [hL]
  have HL := Lib.hid hL
  clear hL
  go_enter Tryd.func16, Tryd.ntmps16
  go_wp2
  go_loop [7, 8] (fun z i => ∃ k acc : Nat, k ≤ 9 ∧ i = .int .i64 k ∧ z = .int .u64 acc ∧ acc < 2 ^ (7 * k) ∧ scan 0 0 (L.drop p) = scan k acc (L.drop (p + k))) (fun _ i => 9 - (RowKit.intOf i).toNat)
  case atStart => exact ⟨0, 0, by omega, rfl, rfl, by simp, rfl⟩
  case round =>
    obtain ⟨k, acc, hk, rfl, rfl, hacc, hsc⟩ := hrel
    have HS := Lib.hid hsc
    clear hsc
    by_cases h9 : k < 9
    · by_cases hb : p + k < s.size
      · have h92 : (k : Int) < 9 := by omega
        have hb2 : (p : Int) + (k : Int) < (s.size : Int) := by omega
        have hb8 : s[p + k].toNat < 256 := s[p + k].toNat_lt
        obtain ⟨Z, hZ⟩ : ∃ Z, acc + s[p + k].toNat % 128 * 2 ^ (7 * k) = Z := ⟨_, rfl⟩
        have hA := acc_lt acc s[p + k].toNat k hacc
        have hW : IntKind.u64.wrap ((acc : Int) + IntKind.u64.wrap ((s[p + k].toNat : Int) % 128 * 2 ^ (7 * k))) = (Z : Int) := by
          have := wrap_acc acc s[p + k].toNat k (by omega) hacc
          rw [hZ, Nat.mul_comm k 7] at this
          exact this
        rw [hZ] at hA
        have h63 := pow_le_63 (k + 1) (by omega)
        have hZ63 : Z < 9223372036854775808 := by omega
        have HCO := Lib.hid (drop_byte s L HL.out (p + k) hb)
        have HA := Lib.hid hA; have HZ := Lib.hid hZ
        clear hA hZ h63 hacc
        by_cases hbig : 128 ≤ s[p + k].toNat
        · have hbig2 : (128 : Int) ≤ (s[p + k].toNat : Int) := by omega
          go_wp2
          go_round
          case rel => exact ⟨k + 1, Z, by omega, by go_num, rfl, HA.out, by rw [HS.out, HCO.out, scan_more (by omega) hbig, HZ.out]; rfl⟩
          case measure => simp [RowKit.intOf]; omega
        · have hbig2 : (s[p + k].toNat : Int) < 128 := by omega
          have hscan : scan 0 0 (L.drop p) = if (s[p + k].toNat = 0 ∧ 0 < k) ∨ maxZ < Z then none else some (Z, k + 1) := by
            rw [HS.out, HCO.out]
            simp only [scan]
            have hz2 : acc + s[p + k].toNat * 2 ^ (7 * k) = Z := by rw [← HZ.out, Nat.mod_eq_of_lt (by omega)]
            rw [if_neg (by omega), if_neg (by omega), hz2]
          have HSC := Lib.hid hscan
          clear hscan
          have hsl := fun w' => slice_at (P := Tryd.prog) 9 Tryd.underlying9 s (p : Int) ((p : Int) + (k : Int) + 1) p (p + k + 1) rfl (by omega) (by omega) (by omega) w'
          by_cases ho : Z % 2 = 1
          · have hu : unz Z = -((Z : Int) / 2) - 1 := by unfold unz; rw [if_neg (by omega)]; omega
            have HU := Lib.hid hu
            have hob : (((Z : Int) % 2) == 1) = true := by rw [beq_iff_eq]; omega
            have HO := Lib.hid ho
            clear hu ho
            by_cases htop : Z = 9223372036854775807
            · have HT := Lib.hid htop
              go_wp2_with fail
              refine (refPut_no _ (by omega) _).mono ?_
              rintro e w' ⟨rfl, hb⟩
              go_wp2
              go_ret3
              exact ⟨by rw [HSC.out, if_pos (.inr (by unfold maxZ; omega))]; rfl, hb⟩
            · have hz805 : Z ≤ 9223372036854775805 := by have := HO.out; omega
              go_wp2_with fail
              refine (refPut_yes _ (by omega) (by omega) _).mono ?_
              rw [← HU.out]
              rintro e w' ⟨rfl, hb⟩
              obtain ⟨E, hE⟩ : ∃ E, encS (unz Z) = E := ⟨_, rfl⟩
              obtain ⟨X, hX⟩ : ∃ X, s.extract p (p + k + 1) = X := ⟨_, rfl⟩
              rw [hE]
              rw [hX] at hsl
              have hEX := ref_same s L HL.out p k Z (by unfold maxZ; omega) hE hX HSC.out
              have HEX := Lib.hid hEX
              clear hE hX hEX
              by_cases heq : E = X
              · subst heq
                go_wp2
                go_ret3
                exact ⟨(out_eq p Z (k + 1) ((p : Int) + (k : Int) + 1) (by omega)).trans (by rw [HEX.out.1 trivial]), hb⟩
              · have hne := str_ne heq
                have HNE := Lib.hid heq
                clear heq
                go_wp2
                go_ret3
                exact ⟨by rw [HEX.out.2 HNE.out]; rfl, hb⟩
          · have hu : unz Z = (Z : Int) / 2 := by unfold unz; rw [if_pos (by omega)]; omega
            have HU := Lib.hid hu
            have hz806 : Z ≤ 9223372036854775806 := by omega
            have hob : (((Z : Int) % 2) == 1) = false := by rw [beq_eq_false_iff_ne]; omega
            clear hu ho
            go_wp2_with fail
            refine (refPut_yes _ (by omega) (by omega) _).mono ?_
            rw [← HU.out]
            rintro e w' ⟨rfl, hb⟩
            obtain ⟨E, hE⟩ : ∃ E, encS (unz Z) = E := ⟨_, rfl⟩
            obtain ⟨X, hX⟩ : ∃ X, s.extract p (p + k + 1) = X := ⟨_, rfl⟩
            rw [hE]
            rw [hX] at hsl
            have hEX := ref_same s L HL.out p k Z (by unfold maxZ; omega) hE hX HSC.out
            have HEX := Lib.hid hEX
            clear hE hX hEX
            by_cases heq : E = X
            · subst heq
              go_wp2
              go_ret3
              exact ⟨(out_eq p Z (k + 1) ((p : Int) + (k : Int) + 1) (by omega)).trans (by rw [HEX.out.1 trivial]), hb⟩
            · have hne := str_ne heq
              have HNE := Lib.hid heq
              clear heq
              go_wp2
              go_ret3
              exact ⟨by rw [HEX.out.2 HNE.out]; rfl, hb⟩
      · have hb2 : ¬ (p : Int) + (k : Int) < (s.size : Int) := by omega
        have h92 : (k : Int) < 9 := by omega
        have hn : scan k acc (L.drop (p + k)) = none := by
          have hLs : L.length = s.size := by rw [← HL.out]; simp
          rw [List.drop_of_length_le (by omega)]; rfl
        have HN := Lib.hid hn
        clear hn
        go_wp2
        go_ret3
        exact ⟨by rw [HS.out, HN.out]; rfl, Below.refl _ _⟩
    · have h92 : ¬ (k : Int) < 9 := by omega
      have hn : scan k acc (L.drop (p + k)) = none := by
        cases hd : L.drop (p + k) with
        | nil => rfl
        | cons b l => simp only [scan]; rw [if_pos (by omega)]
      have HN := Lib.hid hn
      clear hn
      go_wp2
      go_ret3
      exact ⟨by rw [HS.out, HN.out]; rfl, Below.refl _ _⟩

set_option maxHeartbeats 1000000 in
theorem refString_arg (s : ByteArray) (a : Int) (h : a < 0 ∨ (s.size : Int) < a) (w : World) :
    Calls Tryd.prog 18 #[.string s, .int .i64 a] w fun e w' => e = .returned (.tuple #[.string ByteArray.empty, .int .i64 0, .int .i64 2]) ∧ w = w' := by
  go_enter Tryd.func18, Tryd.ntmps18
  go_wp2_with (go_at_call 16; refine (refInt_arg s a h _).mono ?_; rintro e w' ⟨rfl, rfl⟩)
  go_ret3
  exact ⟨rfl, rfl⟩

theorem refInt_some (s : ByteArray) (hs : s.size ≤ 281474976710656) (p : Nat) (hp : p ≤ s.size) (z n : Nat) (h : scan 0 0 (s.data.toList.drop p) = some (z, n)) (w : World) :
    Calls Tryd.prog 16 #[.string s, .int .i64 (p : Nat)] w fun e w' => e = .returned (.tuple #[.int .i64 (unz z), .int .i64 ((p : Int) + (n : Int)), .int .i64 0]) ∧ Below w.heap.size w w' := by
  have := refInt_any s hs p hp w
  rw [h] at this
  exact this
theorem refInt_none (s : ByteArray) (hs : s.size ≤ 281474976710656) (p : Nat) (hp : p ≤ s.size) (h : scan 0 0 (s.data.toList.drop p) = none) (w : World) :
    Calls Tryd.prog 16 #[.string s, .int .i64 (p : Nat)] w fun e w' => e = .returned (.tuple #[.int .i64 0, .int .i64 0, .int .i64 10]) ∧ Below w.heap.size w w' := by
  have := refInt_any s hs p hp w
  rw [h] at this
  exact this

set_option maxHeartbeats 1000000 in
theorem refString_none (s : ByteArray) (hs : s.size ≤ 281474976710656) (p : Nat) (hp : p ≤ s.size) (h : scan 0 0 (s.data.toList.drop p) = none) (w : World) :
    Calls Tryd.prog 18 #[.string s, .int .i64 (p : Nat)] w fun e w' => e = .returned (.tuple #[.string ByteArray.empty, .int .i64 0, .int .i64 10]) ∧ Below w.heap.size w w' := by
  have H := Lib.hid h
  clear h
  go_enter Tryd.func18, Tryd.ntmps18
  go_wp2_with (go_at_call 16; refine (refInt_none s hs p hp H.out _).mono ?_; rintro e w' ⟨rfl, hb⟩)
  go_ret3
  exact ⟨rfl, hb⟩

set_option maxHeartbeats 2000000 in
theorem refString_bad (s : ByteArray) (hs : s.size ≤ 281474976710656) (p : Nat) (hp : p ≤ s.size) (z n : Nat) (h : scan 0 0 (s.data.toList.drop p) = some (z, n))
    (hbad : unz z < 0 ∨ 65536 < unz z ∨ (s.size : Int) - ((p : Int) + (n : Int)) < unz z) (w : World) :
    Calls Tryd.prog 18 #[.string s, .int .i64 (p : Nat)] w fun e w' => e = .returned (.tuple #[.string ByteArray.empty, .int .i64 0, .int .i64 10]) ∧ Below w.heap.size w w' := by
  have hf := scan_fits hp h
  have hz := (scan_is_enc h).1
  obtain ⟨hu1, hu2⟩ := unz_range hz
  have H := Lib.hid h
  clear h hz
  have HS := Lib.hid hs
  obtain ⟨u, hu⟩ : ∃ u, unz z = u := ⟨_, rfl⟩
  rw [hu] at hbad hu1 hu2
  have HU := Lib.hid hu
  clear hu
  by_cases h1 : u < 0
  · clear hbad
    go_enter Tryd.func18, Tryd.ntmps18
    go_wp2_with (go_at_call 16; refine (refInt_some s HS.out p hp z n H.out _).mono ?_; rw [HU.out]; rintro e w' ⟨rfl, hb⟩)
    go_ret3
    exact ⟨rfl, hb⟩
  · by_cases h2 : 65536 < u
    · clear hbad
      go_enter Tryd.func18, Tryd.ntmps18
      go_wp2_with (go_at_call 16; refine (refInt_some s HS.out p hp z n H.out _).mono ?_; rw [HU.out]; rintro e w' ⟨rfl, hb⟩)
      go_ret3
      exact ⟨rfl, hb⟩
    · have h3 : (s.size : Int) - ((p : Int) + (n : Int)) < u := by omega
      clear hbad
      go_enter Tryd.func18, Tryd.ntmps18
      go_wp2_with (go_at_call 16; refine (refInt_some s HS.out p hp z n H.out _).mono ?_; rw [HU.out]; rintro e w' ⟨rfl, hb⟩)
      go_ret3
      exact ⟨rfl, hb⟩

set_option maxHeartbeats 2000000 in
theorem refString_ok (s : ByteArray) (hs : s.size ≤ 281474976710656) (p : Nat) (hp : p ≤ s.size) (z n m : Nat) (h : scan 0 0 (s.data.toList.drop p) = some (z, n))
    (hm : unz z = (m : Int)) (h1 : m ≤ 65536) (h2 : p + n + m ≤ s.size) (w : World) :
    Calls Tryd.prog 18 #[.string s, .int .i64 (p : Nat)] w fun e w' => e = .returned (.tuple #[.string (s.extract (p + n) (p + n + m)), .int .i64 ((p : Int) + (n : Int) + (m : Int)), .int .i64 0]) ∧ Below w.heap.size w w' := by
  have H := Lib.hid h
  have HM := Lib.hid hm
  have HS := Lib.hid hs
  clear h hm
  have h1' : (m : Int) ≤ 65536 := by omega
  have h2' : (m : Int) ≤ (s.size : Int) - ((p : Int) + (n : Int)) := by omega
  have hsl := fun w' => slice_at (P := Tryd.prog) 9 Tryd.underlying9 s ((p : Int) + (n : Int)) ((p : Int) + (n : Int) + (m : Int)) (p + n) (p + n + m) (by omega) (by omega) (by omega) h2 w'
  go_enter Tryd.func18, Tryd.ntmps18
  go_wp2_with (go_at_call 16; refine (refInt_some s HS.out p hp z n H.out _).mono ?_; rw [HM.out]; rintro e w' ⟨rfl, hb⟩)
  go_ret3
  exact ⟨rfl, hb⟩

set_option maxHeartbeats 1000000 in
theorem refPutString_ok (s : ByteArray) (h : s.size ≤ 65536) (w : World) :
    Calls Tryd.prog 20 #[.string s] w fun e w' => e = .returned (.tuple #[.string (encS s.size ++ s), .int .i64 0]) ∧ Below w.heap.size w w' := by
  have h' : (s.size : Int) ≤ 65536 := by omega
  have hcat : (encS (s.size : Int)).size + s.size ≤ 9223372036854775807 := by have := encS_size_le (s.size : Int) (by omega) (by omega); omega
  go_enter Tryd.func20, Tryd.ntmps20
  go_wp2_with (go_at_call 13; refine (refPut_yes (s.size : Int) (by omega) (by omega) _).mono ?_; rintro e w' ⟨rfl, hb⟩)
  go_ret2
  exact ⟨rfl, hb⟩
end Go.Proofs.YtkilmnhciigkcaaDoor
