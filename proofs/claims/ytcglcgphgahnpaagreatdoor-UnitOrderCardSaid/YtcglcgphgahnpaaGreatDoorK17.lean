/-
  Plain mathematics of layer 5: the encoding of a quantity, and how it is read.
-/
import Derived.Test.YtcglcgphgahnpaaGreatDoorProg
import Derived.Test.YtcglcgphgahnpaaGreatDoorK11
import Derived.Test.YtcglcgphgahnpaaGreatDoorK16
import Derived.Lib.ConvBytes
import Derived.Lib.SlBytesRow
import Derived.Laws.Rows
import Derived.Below
import Derived.OwnWalk
import Derived.OwnWalkIn
import Derived.BigQuiet
import Derived.IntWalk
import Derived.RegionTactic
import Derived.Deep.RegionLaw
import Derived.Deep.RegionWith
import Derived.Deep.RegionHeld3
import Derived.Deep.QuietTactic
import Derived.Shelf.Abstract
import Derived.Laws.AppendOwn
import Derived.WalkKit
import Derived.WalkLawsBesides
import Derived.Outline
import Derived.Lib.Hide
import Derived.Laws.MakeOwn
import Derived.Lib.Varint
import Derived.TacticsInMore
import Derived.LoopNIn
import Derived.LoopIn
import Derived.RangeFuncNested
import Derived.RangeFuncBound
import Derived.RangeFuncCalls
import Derived.RangeFuncLeaves
import Derived.Shelf.LaysM
import Derived.Shelf.Strconv.Clone
import Derived.Lib.Strings
import Derived.RangeFuncRecord
set_option maxRecDepth 100000
set_option maxHeartbeats 16000000
namespace Go.Proofs.YtcglcgphgahnpaaGreatDoor
def fromB (s : ByteArray) (p : Nat) : List UInt8 := s.data.toList.drop p
def getI (s : ByteArray) (p : Nat) : Option (Int × Nat) := match W1.scan 0 0 (fromB s p) with
 | some (z, n) => some (W1.unz z, p + n)
 | none => none
def getS (s : ByteArray) (p : Nat) : Option (ByteArray × Nat) := match W1.scan 0 0 (fromB s p) with
 | some (z, n) => if 0 ≤ W1.unz z ∧ W1.unz z ≤ 65536 ∧ p + n + (W1.unz z).toNat ≤ s.size then some (s.extract (p + n) (p + n + (W1.unz z).toNat), p + n + (W1.unz z).toNat) else none
 | none => none
theorem fromB_len (s : ByteArray) (p : Nat) : (fromB s p).length = s.size - p := by unfold fromB; rw [List.length_drop, Array.length_toList]; rfl
theorem fromB_add (s : ByteArray) (p k : Nat) : fromB s (p + k) = (fromB s p).drop k := by unfold fromB; rw [List.drop_drop]
theorem drop_of {s : ByteArray} {p : Nat} {a r : List UInt8} (h : fromB s p = a ++ r) : fromB s (p + a.length) = r := by rw [fromB_add, h, List.drop_left]
theorem extract_of {s t : ByteArray} {p : Nat} {r : List UInt8} (h : fromB s p = t.data.toList ++ r) : s.extract p (p + t.size) = t := by
 refine ByteArray.ext (Array.toList_inj.1 ?_)
 rw [ByteArray.data_extract, Array.toList_extract, List.extract_eq_take_drop, Nat.add_sub_cancel_left]
 show (fromB s p).take t.size = _
 rw [h]
 have e : t.size = t.data.toList.length := by rw [Array.length_toList]; rfl
 rw [e]
 exact List.take_left
theorem encS_list (x : Int) : (W1.encS x).data.toList = Lib.uvarint (Lib.zigzag x) := W1.encS_bytes x
theorem encS_length (x : Int) : (Lib.uvarint (Lib.zigzag x)).length = (W1.encS x).size := W1.encS_len x
def InW (x : Int) : Prop := -4611686018427387903 ≤ x ∧ x ≤ 4611686018427387903
theorem getI_enc {s : ByteArray} {p : Nat} {x : Int} (hx : InW x) {r : List UInt8} (h : fromB s p = (W1.encS x).data.toList ++ r) : getI s p = some (x, p + (W1.encS x).size) := by
 unfold getI
 rw [h, encS_list, W1.scan_of_enc (W1.zigzag_le hx.1 hx.2) r]
 show some (W1.unz _, _) = _
 rw [W1.unz_zigzag, encS_length]
theorem putS_list (t : ByteArray) : (W1.putS t).data.toList = (W1.encS (t.size : Int)).data.toList ++ t.data.toList := by rw [W1.putS_bytes, encS_list]
theorem putS_len (t : ByteArray) : (W1.putS t).size = (W1.encS (t.size : Int)).size + t.size := W1.putS_size t
theorem getS_enc {s t : ByteArray} {p : Nat} (ht : t.size ≤ 65536) {r : List UInt8} (h : fromB s p = (W1.putS t).data.toList ++ r) : getS s p = some (t, p + (W1.putS t).size) := by
 have hw : InW (t.size : Int) := ⟨by omega, by omega⟩
 rw [putS_list, List.append_assoc] at h
 have hsc : W1.scan 0 0 (fromB s p) = some (Lib.zigzag (t.size : Int), (Lib.uvarint (Lib.zigzag (t.size : Int))).length) := by
  rw [h, encS_list]
  exact W1.scan_of_enc (W1.zigzag_le hw.1 hw.2) _
 have h2 := drop_of h
 rw [encS_list, encS_length] at h2
 have hlen := congrArg List.length h2
 rw [fromB_len, List.length_append, Array.length_toList] at hlen
 have hts : t.data.size = t.size := rfl
 unfold getS
 rw [hsc]
 show (if 0 ≤ W1.unz _ ∧ _ then _ else _) = _
 rw [W1.unz_zigzag, encS_length, Int.toNat_natCast]
 rw [if_pos ⟨by omega, by omega, by
  have hl0 := congrArg List.length h
  rw [fromB_len, List.length_append, List.length_append, Array.length_toList, Array.length_toList] at hl0
  have : (W1.encS (t.size : Int)).data.size = (W1.encS (t.size : Int)).size := rfl
  have hp := W1.encS_pos' (t.size : Int)
  omega⟩]
 rw [extract_of h2, putS_len, Nat.add_assoc]
theorem getS_sound {s x : ByteArray} {p q : Nat} (h : getS s p = some (x, q)) : x.size ≤ 65536 ∧ q = p + (W1.putS x).size ∧ q ≤ s.size ∧ ∃ r, fromB s p = (W1.putS x).data.toList ++ r := by
 unfold getS at h
 cases hs : W1.scan 0 0 (fromB s p) with
 | none => rw [hs] at h; cases h
 | some zn =>
  obtain ⟨z, n⟩ := zn
  rw [hs] at h
  have h' : (if 0 ≤ W1.unz z ∧ W1.unz z ≤ 65536 ∧ p + n + (W1.unz z).toNat ≤ s.size then some (s.extract (p + n) (p + n + (W1.unz z).toNat), p + n + (W1.unz z).toNat) else none) = some (x, q) := h
  split at h'
  · rename_i hc
    obtain ⟨c1, c2, c3⟩ := hc
    injection h' with h'
    injection h' with h1 h2
    obtain ⟨k1, k2, k3⟩ := W1.scan_is_enc hs
    obtain ⟨r, hr⟩ := k3
    have hx : x.size = (W1.unz z).toNat := by rw [← h1, ByteArray.size_extract]; omega
    have hz : (x.size : Int) = W1.unz z := by omega
    have e : Lib.zigzag (x.size : Int) = z := by rw [hz, W1.zigzag_unz]
    have hn : n = (W1.encS (x.size : Int)).size := by rw [k2, ← encS_length, e]
    have hd : fromB s (p + n) = r := by rw [k2]; exact drop_of hr.symm
    have hxt : x.data.toList ++ r.drop x.size = r := by
     have : x.data.toList = r.take x.size := by
      rw [← h1, ByteArray.data_extract, Array.toList_extract, List.extract_eq_take_drop, Nat.add_sub_cancel_left]
      show (fromB s (p + n)).take _ = _
      rw [hd, h1, hx]
     rw [this]
     exact List.take_append_drop _ _
    refine ⟨by omega, by rw [← h2, putS_len, hn, hx]; omega, by omega, r.drop x.size, ?_⟩
    rw [putS_list, encS_list, e, List.append_assoc, hxt, hr]
  · cases h'
def encU (n d : ByteArray) (t b m c : Int) : ByteArray := W1.putS n ++ W1.putS d ++ W1.encS t ++ W1.encS b ++ W1.encS m ++ W1.encS c
def decU (s : ByteArray) (p : Nat) : Option (ByteArray × ByteArray × Int × Int × Int × Int × Nat) :=
 match getS s p with
 | none => none
 | some (n, p1) => match getS s p1 with
  | none => none
  | some (d, p2) => match getI s p2 with
   | none => none
   | some (t, p3) => match getI s p3 with
    | none => none
    | some (b, p4) => match getI s p4 with
     | none => none
     | some (m, p5) => match getI s p5 with
      | none => none
      | some (c, p6) => if okU n d t b m c then some (n, d, t, b, m, c, p6) else none
theorem inW_of {x : Int} (h : InE x) : InW x := by unfold InE at h; exact ⟨by omega, by omega⟩
theorem size_list (t : ByteArray) : t.data.toList.length = t.size := by rw [Array.length_toList]; rfl
theorem drop_enc {s t : ByteArray} {p : Nat} {r : List UInt8} (h : fromB s p = t.data.toList ++ r) : fromB s (p + t.size) = r := by rw [← size_list]; exact drop_of h
theorem encU_list (n d : ByteArray) (t b m c : Int) : (encU n d t b m c).data.toList = (W1.putS n).data.toList ++ ((W1.putS d).data.toList ++ ((W1.encS t).data.toList ++ ((W1.encS b).data.toList ++ ((W1.encS m).data.toList ++ (W1.encS c).data.toList)))) := by
 unfold encU
 simp only [ByteArray.data_append, Array.toList_append, List.append_assoc]
theorem encU_size (n d : ByteArray) (t b m c : Int) : (encU n d t b m c).size = (W1.putS n).size + (W1.putS d).size + (W1.encS t).size + (W1.encS b).size + (W1.encS m).size + (W1.encS c).size := by
 unfold encU
 simp only [ByteArray.size_append]
theorem decU_enc {s : ByteArray} {p : Nat} {n d : ByteArray} {t b m c : Int} (hok : okU n d t b m c = true) {r : List UInt8} (h : fromB s p = (encU n d t b m c).data.toList ++ r) : decU s p = some (n, d, t, b, m, c, p + (encU n d t b m c).size) := by
 obtain ⟨hE, hF⟩ := okU_parts hok
 obtain ⟨ht, hb, hm, hc⟩ := okE_in hE
 have hz := fit60_size hF
 rw [encU_list] at h
 simp only [List.append_assoc] at h
 have g1 := getS_enc (t := n) (by omega) h
 have h1 := drop_enc h
 have g2 := getS_enc (t := d) (by omega) h1
 have h2 := drop_enc h1
 have g3 := getI_enc (inW_of ht) h2
 have h3 := drop_enc h2
 have g4 := getI_enc (inW_of hb) h3
 have h4 := drop_enc h3
 have g5 := getI_enc (inW_of hm) h4
 have h5 := drop_enc h4
 have g6 := getI_enc (inW_of hc) h5
 unfold decU
 simp only [g1, g2, g3, g4, g5, g6]
 rw [if_pos hok, encU_size]
 simp only [Nat.add_assoc]
end Go.Proofs.YtcglcgphgahnpaaGreatDoor
