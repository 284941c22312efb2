/-
  WireRoundTrip returns true for all arguments: the walk.
-/
import Derived.Test.YtkilmnhciigkcaaDoorSane
import Derived.Test.YtkilmnhciigkcaaDoorWire
namespace Go.Proofs.YtkilmnhciigkcaaDoor
open Go Go.Proofs Go.RowKit Go.Lib

theorem embed_drop (p a q : ByteArray) : ((p ++ a) ++ q).data.toList.drop p.size = a.data.toList ++ q.data.toList := by
  rw [append_data, append_data, List.append_assoc, ← size_len p, List.drop_left]

theorem cells2 (w : World) (v0 v1 : Value) (T : TypeId) :
    (w.alloc (.cells #[v0, v1] T)).cell? ⟨w.heap.size, 0, none⟩ = some v0 ∧ (w.alloc (.cells #[v0, v1] T)).cell? ⟨w.heap.size, 1, none⟩ = some v1 := by
  have h := World.alloc_heap_new w (.cells #[v0, v1] T)
  generalize w.alloc (.cells #[v0, v1] T) = W at h ⊢
  constructor <;> simp [World.cell?, h]

set_option maxRecDepth 100000 in
set_option maxHeartbeats 4000000 in
theorem roundTrip_walk (c : Int) (text P0 Q0 : ByteArray) (c0 : -9223372036854775808 ≤ c) (c1 : c ≤ 9223372036854775807)
    (ht : text.size ≤ maxLen) (hP : P0.size ≤ maxLen) (hQ : Q0.size ≤ maxLen) (w : World) (hT : HasTab w) (h0 : 0 < w.heap.size) :
    Calls Tryd.prog 4 #[.int .i64 c, .string text, .agg #[.string P0, .string Q0]] w fun e w' => e = .returned (.bool true) ∧ Below w.heap.size w w' := by
  unfold maxLen at ht hP hQ
  obtain ⟨x, hx⟩ : ∃ x, numF c = x := ⟨_, rfl⟩
  have hxr := numF_range c
  rw [hx] at hxr
  obtain ⟨x0, x1⟩ := hxr
  have HX := Lib.hid hx
  clear hx
  obtain ⟨m, hm⟩ : ∃ m, m = min text.size 200 := ⟨_, rfl⟩
  obtain ⟨i, hi⟩ : ∃ m, m = min P0.size 200 := ⟨_, rfl⟩
  obtain ⟨j, hj⟩ : ∃ m, m = min Q0.size 200 := ⟨_, rfl⟩
  have hmn1 : min (text.size : Int) 200 = (m : Int) := by omega
  have hmn2 : min (P0.size : Int) 200 = (i : Int) := by omega
  have hmn3 : min (Q0.size : Int) 200 = (j : Int) := by omega
  obtain ⟨t, htd⟩ : ∃ t, text.extract 0 m = t := ⟨_, rfl⟩
  obtain ⟨p, hpd⟩ : ∃ t, P0.extract 0 i = t := ⟨_, rfl⟩
  obtain ⟨q, hqd⟩ : ∃ t, Q0.extract 0 j = t := ⟨_, rfl⟩
  have t2 : t.size ≤ 200 := by rw [← htd]; simp; omega
  have p2 : p.size ≤ 200 := by rw [← hpd]; simp; omega
  have q2 : q.size ≤ 200 := by rw [← hqd]; simp; omega
  have hsl1 := fun w' => slice_to (P := Tryd.prog) 9 Tryd.underlying9 text (m : Int) m rfl (by omega) t htd w'
  have hsl2 := fun w' => slice_to (P := Tryd.prog) 9 Tryd.underlying9 P0 (i : Int) i rfl (by omega) p hpd w'
  have hsl3 := fun w' => slice_to (P := Tryd.prog) 9 Tryd.underlying9 Q0 (j : Int) j rfl (by omega) q hqd w'
  clear hm hi hj htd hpd hqd
  obtain ⟨A, hA⟩ : ∃ A, encS x = A := ⟨_, rfl⟩
  obtain ⟨T, hTd⟩ : ∃ T, putS t = T := ⟨_, rfl⟩
  have lA := encS_size_le x (by omega) (by omega)
  have lT := putS_le t (by omega)
  have sI := fun w' => int_at ((p ++ A) ++ q) (by simp [maxLen]; rw [hA] at lA; omega) p.size (by simp; omega) x (by omega) (by omega) q.data.toList (by rw [embed_drop, hA]) w'
  have sS := fun w' => string_at ((p ++ T) ++ q) (by simp [maxLen]; rw [hTd] at lT; omega) p.size (by simp; omega) t (by omega) q.data.toList (by rw [embed_drop, hTd]) w'
  rw [hA] at lA sI
  rw [hTd] at lT sS
  have HA := Lib.hid hA; have HT2 := Lib.hid hTd; have SI := Lib.hid sI; have SS := Lib.hid sS
  clear hA hTd sI sS
  have hcat1 : p.size + A.size ≤ 9223372036854775807 := by omega
  have hcat2 : p.size + A.size + q.size ≤ 9223372036854775807 := by omega
  have hcat3 : p.size + T.size ≤ 9223372036854775807 := by omega
  have hcat4 : p.size + T.size + q.size ≤ 9223372036854775807 := by omega
  obtain ⟨W0, hW0⟩ : ∃ W0, w.alloc (.cells #[.string P0, .string Q0] 36) = W0 := ⟨_, rfl⟩
  have hcs := cells2 w (.string P0) (.string Q0) 36
  have hbW : Below w.heap.size w W0 := hW0 ▸ (Below.refl _ _).alloc (Nat.le_refl _) _
  have hsz : W0.heap.size = w.heap.size + 1 := by rw [← hW0]; simp
  rw [hW0] at hcs
  have HW0 := Lib.hid hW0
  have HCS := Lib.hid hcs
  have HSZ := Lib.hid hsz
  have hTW : HasTab W0 := hT.below hbW h0
  have HT := Lib.hid hTW
  clear hcs hsz hTW hT hW0
  go_enter Tryd.func4, Tryd.ntmps4
  go_wp2_with fail
  rw [HW0.out]
  refine (sane_any _ HT.out (by rw [HSZ.out]; omega)).mono ?_
  rintro e w1 ⟨rfl, b1⟩
  go_wp2_with fail
  refine (number_any c c0 c1 _).mono ?_
  rw [HX.out]
  rintro e w2 ⟨rfl, b2⟩
  have hb : Below w.heap.size w w2 := hbW.trans ((b1.trans (b2.mono b1.size)).mono hbW.size)
  have hc0 : w2.cell? ⟨w.heap.size, 0, none⟩ = some (.string P0) := ((b1.trans (b2.mono b1.size)).cell (p := ⟨w.heap.size, 0, none⟩) (by rw [HSZ.out]; exact Nat.lt_succ_self _)).trans HCS.out.1
  have hc1 : w2.cell? ⟨w.heap.size, 1, none⟩ = some (.string Q0) := ((b1.trans (b2.mono b1.size)).cell (p := ⟨w.heap.size, 1, none⟩) (by rw [HSZ.out]; exact Nat.lt_succ_self _)).trans HCS.out.2
  go_wp2_with fail
  refine (putInt_yes x (by omega) (by omega) _).mono ?_
  rw [HA.out]
  rintro e w3 ⟨rfl, b3⟩
  go_wp2_with fail
  refine (putString_yes t (by omega) _).mono ?_
  rw [HT2.out]
  rintro e w4 ⟨rfl, b4⟩
  go_wp2_with fail
  refine (SI.out _).mono ?_
  rintro e w5 ⟨rfl, rfl⟩
  go_wp2_with fail
  refine (SS.out _).mono ?_
  rintro e w5 ⟨rfl, b5⟩
  go_wp2
  go_ret
  exact ⟨rfl, hb.trans ((b3.trans ((b4.mono b3.size).trans (b5.mono (Nat.le_trans b3.size b4.size)))).mono hb.size)⟩
end Go.Proofs.YtkilmnhciigkcaaDoor
