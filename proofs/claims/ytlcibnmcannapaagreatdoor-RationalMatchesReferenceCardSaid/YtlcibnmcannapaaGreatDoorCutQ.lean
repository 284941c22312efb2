/-
  The contract of the laws' cut: a fraction whose texts have at most 210 bytes.
-/
import Derived.Test.YtlcibnmcannapaaGreatDoorBoxR
import Derived.Test.YtlcibnmcannapaaGreatDoorRefP
import Derived.RegionTactic
namespace Go.Proofs.YtlcibnmcannapaaGreatDoor
open Go Go.Proofs Go.RowKit Go.Lib

def cutT (s : ByteArray) : ByteArray := s.extract 0 (min (s.size : Int) 210).toNat
theorem cutT_size (s : ByteArray) : (cutT s).size ≤ 210 := by unfold cutT; rw [ByteArray.size_extract]; omega

set_option maxRecDepth 100000 in
set_option maxHeartbeats 16000000 in
theorem cutL_any (n d : ByteArray) (hn : n.size ≤ maxLen) (hd : d.size ≤ maxLen) (w : World) :
    Calls Tryz.prog 12 #[.agg #[.string n, .string d]] w fun e w' => e = .returned (.agg #[.string (cutT n), .string (cutT d)]) ∧ Below w.heap.size w w' := by
  obtain ⟨W0, hW0, b0, hcc⟩ := box_two w n d ⟨#[]⟩ ⟨#[]⟩
  obtain ⟨⟨q0, q1, q2, q3⟩, ⟨q4, q5, q6, q7⟩⟩ := hcc W0 (Below.refl _ _)
  have HW := Lib.hid hW0
  obtain ⟨W1, hW1⟩ : ∃ y, ((W0.setCell ⟨w.heap.size + 1, 0, none⟩ (.string (cutT n))).setCell ⟨w.heap.size + 1, 1, none⟩ (.string (cutT d))).drew = y := ⟨_, rfl⟩
  have R1 := Lib.hid (show RatAt W1 (w.heap.size + 1) (cutT n) (cutT d) by rw [← hW1]; exact ratAt_set ⟨q4, q5, q6, q7⟩)
  have B1 := Lib.hid (show Below w.heap.size w W1 by rw [← hW1]; exact ((b0.setCell (p := ⟨w.heap.size + 1, 0, none⟩) (show w.heap.size ≤ w.heap.size + 1 by omega) _).setCell (p := ⟨w.heap.size + 1, 1, none⟩) (show w.heap.size ≤ w.heap.size + 1 by omega) _).drew)
  have HW1 := Lib.hid hW1
  unfold maxLen at hn hd
  have h1 : 0 ≤ min (n.size : Int) 210 := by omega
  have h2 : min (n.size : Int) 210 ≤ n.size := by omega
  have h3 : 0 ≤ min (d.size : Int) 210 := by omega
  have h4 : min (d.size : Int) 210 ≤ d.size := by omega
  clear hW0 b0 hcc hW1
  go_enter Tryz.func12, Tryz.ntmps12
  go_upto_region 1 with (rw [HW.out])
  go_region
  rw [show n.extract 0 (min (n.size : Int) 210).toNat = cutT n from rfl, show d.extract 0 (min (d.size : Int) 210).toNat = cutT d from rfl, HW1.out]
  obtain ⟨u0, u1, _, _⟩ := R1.out
  clear q0 q1 q2 q3 q4 q5 q6 q7 h1 h2 h3 h4
  go_wp2
  exact bodyPost_ret (v := .agg #[.string (cutT n), .string (cutT d)]) (by simp [results, Tryz.results12, go_sem, u0, u1]) rfl ⟨rfl, B1.out⟩
end Go.Proofs.YtlcibnmcannapaaGreatDoor
