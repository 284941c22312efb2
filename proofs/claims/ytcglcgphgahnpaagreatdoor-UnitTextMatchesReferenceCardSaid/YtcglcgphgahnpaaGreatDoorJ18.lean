/-
  Plain mathematics of layer 5: the encoding of a quantity, and how it is read.
-/
import Derived.Test.YtcglcgphgahnpaaGreatDoorJ12
import Derived.Test.YtcglcgphgahnpaaGreatDoorJ17
set_option maxRecDepth 100000
set_option maxHeartbeats 16000000
namespace Go.Proofs.YtcglcgphgahnpaaGreatDoor
def fromB (s : ByteArray) (p : Nat) : List UInt8 := s.data.toList.drop p
def getI (s : ByteArray) (p : Nat) : Option (Int × Nat) := match W1.scan 0 0 (fromB s p) with
 | some (z, n) => some (W1.unz z, p + n)
 | none => none
def getS (s : ByteArray) (p : Nat) : Option (ByteArray × Nat) := match W1.scan 0 0 (fromB s p) with
 | some (z, n) => if 0 ≤ W1.unz z ∧ W1.unz z ≤ 65536 ∧ p + n + (W1.unz z).toNat ≤ s.size then some (s.extract (p + n) (p + n + (W1.unz z).toNat), p + n + (W1.unz z).toNat) else none
 | none => none
theorem fromB_add (s : ByteArray) (p k : Nat) : fromB s (p + k) = (fromB s p).drop k := by unfold fromB; rw [List.drop_drop]
theorem drop_of {s : ByteArray} {p : Nat} {a r : List UInt8} (h : fromB s p = a ++ r) : fromB s (p + a.length) = r := by rw [fromB_add, h, List.drop_left]
theorem encS_list (x : Int) : (W1.encS x).data.toList = Lib.uvarint (Lib.zigzag x) := W1.encS_bytes x
theorem encS_length (x : Int) : (Lib.uvarint (Lib.zigzag x)).length = (W1.encS x).size := W1.encS_len x
theorem putS_list (t : ByteArray) : (W1.putS t).data.toList = (W1.encS (t.size : Int)).data.toList ++ t.data.toList := by rw [W1.putS_bytes, encS_list]
theorem putS_len (t : ByteArray) : (W1.putS t).size = (W1.encS (t.size : Int)).size + t.size := W1.putS_size t
theorem getS_sound {s x : ByteArray} {p q : Nat} (h : getS s p = some (x, q)) : x.size ≤ 65536 ∧ q = p + (W1.putS x).size ∧ q ≤ s.size ∧ ∃ r, fromB s p = (W1.putS x).data.toList ++ r := by
 unfold getS at h
 cases hs : W1.scan 0 0 (fromB s p) with
 | none => rw [hs] at h; cases h
 | some zn =>
  obtain ⟨z, n⟩ := zn
  rw [hs] at h
  have h' : (if 0 ≤ W1.unz z ∧ W1.unz z ≤ 65536 ∧ p + n + (W1.unz z).toNat ≤ s.size then some (s.extract (p + n) (p + n + (W1.unz z).toNat), p + n + (W1.unz z).toNat) else none) = some (x, q) := h
  split at h'
  · rename_i hc
    obtain ⟨c1, c2, c3⟩ := hc
    injection h' with h'
    injection h' with h1 h2
    obtain ⟨k1, k2, k3⟩ := W1.scan_is_enc hs
    obtain ⟨r, hr⟩ := k3
    have hx : x.size = (W1.unz z).toNat := by rw [← h1, ByteArray.size_extract]; omega
    have hz : (x.size : Int) = W1.unz z := by omega
    have e : Lib.zigzag (x.size : Int) = z := by rw [hz, W1.zigzag_unz]
    have hn : n = (W1.encS (x.size : Int)).size := by rw [k2, ← encS_length, e]
    have hd : fromB s (p + n) = r := by rw [k2]; exact drop_of hr.symm
    have hxt : x.data.toList ++ r.drop x.size = r := by
     have : x.data.toList = r.take x.size := by
      rw [← h1, ByteArray.data_extract, Array.toList_extract, List.extract_eq_take_drop, Nat.add_sub_cancel_left]
      show (fromB s (p + n)).take _ = _
      rw [hd, h1, hx]
     rw [this]
     exact List.take_append_drop _ _
    refine ⟨by omega, by rw [← h2, putS_len, hn, hx]; omega, by omega, r.drop x.size, ?_⟩
    rw [putS_list, encS_list, e, List.append_assoc, hxt, hr]
  cases h'
def encU (n d : ByteArray) (t b m c : Int) : ByteArray := W1.putS n ++ W1.putS d ++ W1.encS t ++ W1.encS b ++ W1.encS m ++ W1.encS c
def decU (s : ByteArray) (p : Nat) : Option (ByteArray × ByteArray × Int × Int × Int × Int × Nat) :=
 match getS s p with
 | none => none
 | some (n, p1) => match getS s p1 with
  | none => none
  | some (d, p2) => match getI s p2 with
   | none => none
   | some (t, p3) => match getI s p3 with
    | none => none
    | some (b, p4) => match getI s p4 with
     | none => none
     | some (m, p5) => match getI s p5 with
      | none => none
      | some (c, p6) => if okU n d t b m c then some (n, d, t, b, m, c, p6) else none
end Go.Proofs.YtcglcgphgahnpaaGreatDoor
