/-
  The contract of wire.Sum: the register is folded over the bytes, four bits at a time by the table.
-/
import Derived.Test.YtkilmnhciigkcaaDoorProg
import Derived.WalkKit
import Derived.WalkLawsBesides
import Derived.Outline
import Derived.Lib.Hide
import Derived.Lib.Strings
import Derived.Lib.EndianBits
namespace Go.Proofs.YtkilmnhciigkcaaDoor
open Go Go.Proofs Go.RowKit Go.Lib

/-- The table of the program. -/
def crcTab (i : Nat) : Nat := [0, 274646895, 549293790, 820201905, 1098587580, 1361435347, 1640403810, 1905808397, 2197175160, 2460548119, 2722870694, 2987750089, 3280807620, 3553878443, 3811616794, 4084100981].getD i 0
/-- Four bits are shifted out. -/
def crc4 (r : Nat) : Nat := (r / 16) ^^^ crcTab (r % 16)
/-- One byte. -/
def crc8 (r : Nat) (b : UInt8) : Nat := crc4 (crc4 (r ^^^ b.toNat))
def crcF (l : List UInt8) : Nat := l.foldl crc8 4294967295
theorem crcF_snoc (l : List UInt8) (b : UInt8) : crcF (l ++ [b]) = crc8 (crcF l) b := by simp [crcF]

theorem crcTab_lt (i : Nat) : crcTab i < 4294967296 := by
  unfold crcTab
  by_cases h : i < 16
  · have : i = 0 ∨ i = 1 ∨ i = 2 ∨ i = 3 ∨ i = 4 ∨ i = 5 ∨ i = 6 ∨ i = 7 ∨ i = 8 ∨ i = 9 ∨ i = 10 ∨ i = 11 ∨ i = 12 ∨ i = 13 ∨ i = 14 ∨ i = 15 := by omega
    rcases this with rfl | rfl | rfl | rfl | rfl | rfl | rfl | rfl | rfl | rfl | rfl | rfl | rfl | rfl | rfl | rfl <;> decide
  · rw [List.getD_eq_getElem?_getD, List.getElem?_eq_none (by simp; omega)]
    decide
theorem xor_lt32 {a b : Nat} (ha : a < 4294967296) (hb : b < 4294967296) : a ^^^ b < 4294967296 := Nat.xor_lt_two_pow (n := 32) ha hb
theorem crc4_lt {r : Nat} (h : r < 4294967296) : crc4 r < 4294967296 := xor_lt32 (by omega) (crcTab_lt _)
theorem crc8_lt {r : Nat} (h : r < 4294967296) (b : UInt8) : crc8 r b < 4294967296 := crc4_lt (crc4_lt (xor_lt32 h (by have := b.toNat_lt; omega)))
theorem crc_foldl_lt : ∀ (l : List UInt8) (r : Nat), r < 4294967296 → l.foldl crc8 r < 4294967296
  | [], _, h => h
  | b :: l, r, h => crc_foldl_lt l (crc8 r b) (crc8_lt h b)
theorem crcF_lt (l : List UInt8) : crcF l < 4294967296 := crc_foldl_lt l _ (by decide)
theorem xor32 {a b : Nat} (ha : a < 4294967296) (hb : b < 4294967296) : bits .xor .u32 (a : Int) (b : Int) = ((a ^^^ b : Nat) : Int) := by
  have ha' : a % 2 ^ 32 = a := Nat.mod_eq_of_lt ha
  have hb' : b % 2 ^ 32 = b := Nat.mod_eq_of_lt hb
  show IntKind.u32.wrap ((BitVec.ofInt 32 (a : Int) ^^^ BitVec.ofInt 32 (b : Int)).toNat : Int) = _
  simp only [BitVec.ofInt_natCast, BitVec.toNat_xor, BitVec.toNat_ofNat, ha', hb']
  exact wraps_u32 _ (Int.natCast_nonneg _) (by have := xor_lt32 ha hb; omega)
theorem xor_ones32 (b : Nat) (hb : b < 2 ^ 32) : (2 ^ 32 - 1) ^^^ b = 2 ^ 32 - 1 - b := by
  apply Nat.eq_of_testBit_eq
  intro i
  rw [Nat.testBit_xor, Nat.testBit_two_pow_sub_one, show 2 ^ 32 - 1 - b = 2 ^ 32 - (b + 1) by omega, Nat.testBit_two_pow_sub_succ hb]
  by_cases hi : i < 32
  · simp [hi]
  · have : b.testBit i = false := Nat.testBit_lt_two_pow (Nat.lt_of_lt_of_le hb (Nat.pow_le_pow_right (by decide) (by omega)))
    simp [hi, this]
theorem not32 {b : Nat} (hb : b < 4294967296) : bits .xor .u32 IntKind.u32.max (b : Int) = ((4294967295 - b : Nat) : Int) := by
  have e : IntKind.u32.max = ((4294967295 : Nat) : Int) := by decide
  rw [e, xor32 (by decide) hb]
  exact congrArg (fun n : Nat => (n : Int)) (xor_ones32 b hb)

/-- The table's cells. -/
def HasTab (w : World) : Prop := ∀ i, i < 16 → w.cell? ⟨0, i, none⟩ = some (.int .u32 ((crcTab i : Nat) : Int))

theorem ret_s {k : IntKind} {a b : Int} (h : a = b) : Ending.returned (.int k a) = .returned (.int k b) := by rw [h]
theorem take_byte (s : ByteArray) (L : List UInt8) (hL : s.data.toList = L) (k : Nat) (h : k < s.size) : L.take (k + 1) = L.take k ++ [s[k]] := by
  subst hL
  rw [List.take_succ_eq_append_getElem (by simpa using h)]
  rfl

set_option maxRecDepth 100000 in
set_option maxHeartbeats 1000000 in
theorem sum_any (s : ByteArray) (hs : s.size ≤ maxLen) (w : World) (hT : HasTab w) :
    Calls Tryd.prog 21 #[.string s] w fun e w' => e = .returned (.int .i64 ((4294967295 - crcF s.data.toList : Nat) : Int)) ∧ w = w' := by
  unfold maxLen at hs
  have HT := Lib.hid hT
  clear hT
  obtain ⟨L, hL⟩ : ∃ L, s.data.toList = L := ⟨_, rfl⟩
  rw [hL]
  have HL := Lib.hid hL
  clear hL
  go_enter Tryd.func21, Tryd.ntmps21
  go_wp2
  go_loop [3, 7] (fun r i => ∃ k : Nat, k ≤ s.size ∧ i = .int .i64 k ∧ r = .int .u32 ((crcF (L.take k) : Nat) : Int)) (fun _ i => s.size - (intOf i).toNat)
  case atStart => exact ⟨0, Nat.zero_le _, rfl, rfl⟩
  case round =>
    obtain ⟨k, hk, rfl, rfl⟩ := hrel
    obtain ⟨r, hr⟩ : ∃ r, crcF (L.take k) = r := ⟨_, rfl⟩
    rw [hr]
    have HR := Lib.hid hr
    clear hr
    have hr32 : r < 4294967296 := HR.out ▸ crcF_lt _
    by_cases hlt : k < s.size
    · have hb8 : s[k].toNat < 4294967296 := by have := s[k].toNat_lt; omega
      obtain ⟨q1, hq1⟩ : ∃ q, r ^^^ s[k].toNat = q := ⟨_, rfl⟩
      have hq1l : q1 < 4294967296 := hq1 ▸ xor_lt32 hr32 hb8
      have hE1 : bits BinOp.xor IntKind.u32 (r : Int) (s[k].toNat : Int) = (q1 : Int) := by rw [xor32 hr32 hb8, hq1]
      obtain ⟨t1, ht1⟩ : ∃ t, crcTab (q1 % 16) = t := ⟨_, rfl⟩
      have hc1 : w.cell? ⟨0, q1 % 16, none⟩ = some (.int .u32 (t1 : Int)) := by rw [HT.out _ (by omega), ht1]
      obtain ⟨q2, hq2⟩ : ∃ q, (q1 / 16) ^^^ t1 = q := ⟨_, rfl⟩
      have ht1l : t1 < 4294967296 := ht1 ▸ crcTab_lt _
      have hq2l : q2 < 4294967296 := hq2 ▸ xor_lt32 (by omega) ht1l
      have hE2 : bits BinOp.xor IntKind.u32 ((q1 : Int) / 16) (t1 : Int) = (q2 : Int) := by
        rw [show (q1 : Int) / 16 = ((q1 / 16 : Nat) : Int) by omega, xor32 (by omega) ht1l, hq2]
      obtain ⟨t2, ht2⟩ : ∃ t, crcTab (q2 % 16) = t := ⟨_, rfl⟩
      have hc2 : w.cell? ⟨0, q2 % 16, none⟩ = some (.int .u32 (t2 : Int)) := by rw [HT.out _ (by omega), ht2]
      obtain ⟨q3, hq3⟩ : ∃ q, (q2 / 16) ^^^ t2 = q := ⟨_, rfl⟩
      have ht2l : t2 < 4294967296 := ht2 ▸ crcTab_lt _
      have hq3l : q3 < 4294967296 := hq3 ▸ xor_lt32 (by omega) ht2l
      have hE3 : bits BinOp.xor IntKind.u32 ((q2 : Int) / 16) (t2 : Int) = (q3 : Int) := by
        rw [show (q2 : Int) / 16 = ((q2 / 16 : Nat) : Int) by omega, xor32 (by omega) ht2l, hq3]
      have h8 : crc8 r s[k] = q3 := by unfold crc8 crc4; rw [hq1, ht1, hq2, ht2, hq3]
      have H8 := Lib.hid h8
      clear h8 hq1 ht1 hq2 ht2 hq3
      have hi1 : (q1 : Int) ≤ 4294967295 := by omega
      have hi2 : (q2 : Int) ≤ 4294967295 := by omega
      go_wp2
      go_round
      case rel =>
        refine ⟨k + 1, by omega, by go_num, ?_⟩
        rw [take_byte s L HL.out k hlt, crcF_snoc, HR.out, H8.out]
      case measure => simp [intOf]; omega
    · have hk2 : k = s.size := by omega
      have hLs : L.length = s.size := by rw [← HL.out]; simp
      have hall : crcF L = r := by rw [← HR.out, List.take_of_length_le (by omega)]
      have HA := Lib.hid hall
      obtain ⟨nr, hnr⟩ : ∃ n, 4294967295 - r = n := ⟨_, rfl⟩
      have hE := not32 hr32
      rw [hnr] at hE
      have hnl : (nr : Int) ≤ 4294967295 := by omega
      have HN := Lib.hid hnr
      clear hk2 hLs hall hnr
      go_wp2
      go_ret
      exact ⟨ret_s (k := .i64) (a := wrap64 (nr : Int)) (b := ((4294967295 - crcF L : Nat) : Int)) (by rw [HA.out, HN.out]; unfold wrap64; omega), rfl⟩
end Go.Proofs.YtkilmnhciigkcaaDoor
