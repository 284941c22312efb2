/-
  Plain mathematics of layer 5: the encoding of a quantity, and how it is read.
-/
import Derived.Test.YtcglcgphgahnpaaGreatDoorProg
import Derived.Test.YtcglcgphgahnpaaGreatDoorK17
import Derived.Test.YtcglcgphgahnpaaGreatDoorK41
import Derived.Lib.ConvBytes
import Derived.Lib.SlBytesRow
import Derived.Laws.Rows
import Derived.Below
import Derived.OwnWalk
import Derived.OwnWalkIn
import Derived.BigQuiet
import Derived.IntWalk
import Derived.RegionTactic
import Derived.Deep.RegionLaw
import Derived.Deep.RegionWith
import Derived.Deep.RegionHeld3
import Derived.Deep.QuietTactic
import Derived.Shelf.Abstract
import Derived.Laws.AppendOwn
import Derived.WalkKit
import Derived.WalkLawsBesides
import Derived.Outline
import Derived.Lib.Hide
import Derived.Laws.MakeOwn
import Derived.Lib.Varint
import Derived.TacticsInMore
import Derived.LoopNIn
import Derived.LoopIn
import Derived.RangeFuncNested
import Derived.RangeFuncBound
import Derived.RangeFuncCalls
import Derived.RangeFuncLeaves
import Derived.Shelf.LaysM
import Derived.Shelf.Strconv.Clone
import Derived.Lib.Strings
import Derived.RangeFuncRecord
set_option maxRecDepth 100000
set_option maxHeartbeats 16000000
namespace Go.Proofs.YtcglcgphgahnpaaGreatDoor
theorem getI_sound {s : ByteArray} {p : Nat} {x : Int} {q : Nat} (h : getI s p = some (x, q)) : InW x ∧ q = p + (W1.encS x).size ∧ ∃ r, fromB s p = (W1.encS x).data.toList ++ r := by
 unfold getI at h
 cases hs : W1.scan 0 0 (fromB s p) with
 | none => rw [hs] at h; cases h
 | some zn =>
  obtain ⟨z, n⟩ := zn
  rw [hs] at h
  injection h with h
  injection h with h1 h2
  obtain ⟨k1, k2, k3⟩ := W1.scan_is_enc hs
  have e : Lib.zigzag x = z := by rw [← h1, W1.zigzag_unz]
  obtain ⟨r, hr⟩ := k3
  refine ⟨by rw [← h1]; exact W1.unz_range k1, ?_, r, ?_⟩
  · rw [← h2, k2, ← encS_length, e]
  · rw [encS_list, e, hr]
theorem app_of {s a b : ByteArray} {p q : Nat} {r r' : List UInt8} (h : fromB s p = a.data.toList ++ r) (hq : q = p + a.size) (h2 : fromB s q = b.data.toList ++ r') : fromB s p = (a ++ b).data.toList ++ r' := by
 rw [hq, drop_enc h] at h2
 rw [h, h2, ByteArray.data_append, Array.toList_append, List.append_assoc]
theorem decU_sound {s : ByteArray} {p q : Nat} {n d : ByteArray} {t b m c : Int} (h : decU s p = some (n, d, t, b, m, c, q)) :
 okU n d t b m c = true ∧ q = p + (encU n d t b m c).size ∧ ∃ r, fromB s p = (encU n d t b m c).data.toList ++ r := by
 unfold decU at h
 split at h
 · cases h
 · rename_i n' p1 e1
   split at h
   · cases h
   · rename_i d' p2 e2
     split at h
     · cases h
     · rename_i t' p3 e3
       split at h
       · cases h
       · rename_i b' p4 e4
         split at h
         · cases h
         · rename_i m' p5 e5
           split at h
           · cases h
           · rename_i c' p6 e6
             split at h
             · rename_i hok
               injection h with h
               injection h with h1 h
               injection h with h2 h
               injection h with h3 h
               injection h with h4 h
               injection h with h5 h
               injection h with h6 h7
               subst h1 h2 h3 h4 h5 h6 h7
               obtain ⟨_, q1, _, r1, f1⟩ := getS_sound e1
               obtain ⟨_, q2, _, r2, f2⟩ := getS_sound e2
               obtain ⟨_, q3, r3, f3⟩ := getI_sound e3
               obtain ⟨_, q4, r4, f4⟩ := getI_sound e4
               obtain ⟨_, q5, r5, f5⟩ := getI_sound e5
               obtain ⟨_, q6, r6, f6⟩ := getI_sound e6
               have a1 := app_of f1 q1 f2
               have a2 := app_of a1 (by rw [ByteArray.size_append]; omega) f3
               have a3 := app_of a2 (by simp only [ByteArray.size_append]; omega) f4
               have a4 := app_of a3 (by simp only [ByteArray.size_append]; omega) f5
               have a5 := app_of a4 (by simp only [ByteArray.size_append]; omega) f6
               exact ⟨hok, by rw [encU_size]; omega, r6, a5⟩
             · cases h
theorem decU_text {s : ByteArray} {p q : Nat} {n d : ByteArray} {t b m c : Int} (h : decU s p = some (n, d, t, b, m, c, q)) : s.extract p q = encU n d t b m c := by
 obtain ⟨_, hq, r, hr⟩ := decU_sound h
 rw [hq]
 exact extract_of hr
end Go.Proofs.YtcglcgphgahnpaaGreatDoor
