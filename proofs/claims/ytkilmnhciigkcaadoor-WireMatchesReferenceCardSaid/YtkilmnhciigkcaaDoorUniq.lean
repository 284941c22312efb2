/-
  What is accepted at an offset is the encoding of what is returned: Int and String at any string and offset.
-/
import Derived.Test.YtkilmnhciigkcaaDoorWire
namespace Go.Proofs.YtkilmnhciigkcaaDoor
open Go Go.Proofs Go.RowKit Go.Lib

theorem extract_of_prefix {s : ByteArray} {p n : Nat} {l : List UInt8} (h : l <+: s.data.toList.drop p) (hn : n = l.length) : (s.extract p (p + n)).data.toList = l := by
  rw [Lib.extract_data, Nat.add_sub_cancel_left, hn]
  exact (List.prefix_iff_eq_take.1 h).symm

theorem int_cases (s : ByteArray) (hs : s.size ≤ maxLen) (p : Nat) (hp : p ≤ s.size) :
    (∀ w, Calls Tryd.prog 15 #[.string s, .int .i64 (p : Nat)] w fun e w' => e = .returned (.tuple #[.int .i64 0, .int .i64 0, .int .i64 10]) ∧ w = w') ∨
    ∃ (x : Int) (e : Nat), -4611686018427387903 ≤ x ∧ x ≤ 4611686018427387903 ∧ p ≤ e ∧ e ≤ s.size ∧ s.extract p e = encS x ∧
      ∀ w, Calls Tryd.prog 15 #[.string s, .int .i64 (p : Nat)] w fun r w' => r = .returned (.tuple #[.int .i64 x, .int .i64 (e : Nat), .int .i64 0]) ∧ w = w' := by
  cases h : scan 0 0 (s.data.toList.drop p) with
  | none => exact .inl fun w => int_none s hs p hp h w
  | some zn =>
    obtain ⟨z, n⟩ := zn
    obtain ⟨hz, hn, hpre⟩ := scan_is_enc h
    obtain ⟨r0, r1⟩ := unz_range hz
    refine .inr ⟨unz z, p + n, r0, r1, by omega, scan_fits hp h, ?_, fun w => ?_⟩
    · apply bytes_ext
      rw [extract_of_prefix hpre hn, encS_bytes, zigzag_unz]
    · have := int_some s hs p hp z n h w
      have e : (p : Int) + (n : Int) = ((p + n : Nat) : Int) := by omega
      rwa [e] at this

theorem string_cases (s : ByteArray) (hs : s.size ≤ maxLen) (p : Nat) (hp : p ≤ s.size) :
    (∀ w, Calls Tryd.prog 17 #[.string s, .int .i64 (p : Nat)] w fun e w' => e = .returned (.tuple #[.string ByteArray.empty, .int .i64 0, .int .i64 10]) ∧ w = w') ∨
    ∃ (v : ByteArray) (e : Nat), v.size ≤ 65536 ∧ p ≤ e ∧ e ≤ s.size ∧ s.extract p e = putS v ∧
      ∀ w, Calls Tryd.prog 17 #[.string s, .int .i64 (p : Nat)] w fun r w' => r = .returned (.tuple #[.string v, .int .i64 (e : Nat), .int .i64 0]) ∧ Below w.heap.size w w' := by
  cases h : scan 0 0 (s.data.toList.drop p) with
  | none => exact .inl fun w => string_none s hs p hp h w
  | some zn =>
    obtain ⟨z, n⟩ := zn
    by_cases hbad : unz z < 0 ∨ 65536 < unz z ∨ (s.size : Int) - ((p : Int) + (n : Int)) < unz z
    · exact .inl fun w => string_bad s hs p hp z n h hbad w
    · obtain ⟨m, hm⟩ : ∃ m : Nat, unz z = (m : Int) := Int.eq_ofNat_of_zero_le (by omega)
      obtain ⟨hz, hn, hpre⟩ := scan_is_enc h
      have h1 : m ≤ 65536 := by omega
      have h2 : p + n + m ≤ s.size := by omega
      refine .inr ⟨s.extract (p + n) (p + n + m), p + n + m, by simp; omega, by omega, h2, ?_, fun w => ?_⟩
      · have hsz : (s.extract (p + n) (p + n + m)).size = m := by simp; omega
        apply bytes_ext
        rw [putS_bytes, hsz, ← hm, zigzag_unz]
        obtain ⟨r, hr⟩ := hpre
        rw [Lib.extract_data, Lib.extract_data, ← List.drop_drop, ← hr, hn, List.drop_left]
        rw [show p + (uvarint z).length + m - p = (uvarint z).length + m by omega, show p + (uvarint z).length + m - (p + (uvarint z).length) = m by omega]
        rw [List.take_append, List.take_of_length_le (by omega)]
        congr 2
        omega
      · have := string_ok s hs p hp z n m h hm h1 h2 w
        have e : (p : Int) + (n : Int) + (m : Int) = ((p + n + m : Nat) : Int) := by omega
        rwa [e] at this
end Go.Proofs.YtkilmnhciigkcaaDoor
