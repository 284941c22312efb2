/-
  The contracts of package integer's numbers: text, order.
-/
import Derived.Test.YtildgpahacaglaaDoorNumB
namespace Go.Proofs.YtildgpahacaglaaDoor
open Go Go.Proofs Go.RowKit Go.Lib

theorem grps_nil_iff {N m : Nat} (h : (grps N).length = m) : N = 0 ↔ m = 0 := by
  constructor
  · rintro rfl; rw [← h, grps_zero]; rfl
  · intro e
    rcases Nat.eq_zero_or_pos N with h0 | h0
    · exact h0
    · rw [grps_pos (by omega)] at h; simp at h; omega
set_option maxHeartbeats 2000000 in
theorem textNat_any (N : Nat) (ad : Option Addr) (cap m : Nat) (w : World) (h : NatAt w ad m cap N) (hm : m ≤ 1000) (hR : Ready w) :
    Calls Tryd.prog 40 #[.slice ad m cap] w fun e w' => e = .returned (.string (byteL (textN N))) ∧ Below w.heap.size w w' := by
  by_cases h0 : N = 0
  · obtain rfl := h0
    obtain rfl : m = 0 := (grps_nil_iff h.1).1 rfl
    have ht : byteL (textN 0) = ⟨#[48]⟩ := rfl
    rw [ht]
    go_enter Tryd.func40, Tryd.ntmps40
    go_wp2
    go_ret
    exact ⟨rfl, Below.refl _ _⟩
  · exact callsIn_wide.1 (textM_in 0 N h0 ad cap m w h hm hR)

theorem minus_app (l : List Nat) : (⟨#[45]⟩ : ByteArray) ++ byteL l = byteL (45 :: l) := by
  apply ByteArray.ext
  rw [ByteArray.data_append]
  unfold byteL
  simp

set_option maxHeartbeats 4000000 in
theorem numText_any (b : Bool) (N : Nat) (ad : Option Addr) (m c : Nat) (w : World) (h : NatAt w ad m c N) (hm : m ≤ 1000) (hR : Ready w) :
    Calls Tryd.prog 34 #[.agg #[.bool b, .slice ad m c]] w fun e w' => e = .returned (.string (textI (intD b N))) ∧ Below w.heap.size w w' := by
  obtain ⟨W0, hW0⟩ : ∃ W0, w.alloc (.cells #[.bool b, .slice ad m c] 51) = W0 := ⟨_, rfl⟩
  have hb0 : Below w.heap.size w W0 := by rw [← hW0]; exact (Below.refl _ _).alloc (Nat.le_refl _) _
  have hk : W0.heap[w.heap.size]? = some (.cells #[.bool b, .slice ad m c] 51) := by rw [← hW0]; exact heap_alloc_new _ _
  obtain ⟨p1, p2, _, _⟩ := num_cells hk
  have ct := textNat_any N ad c m W0 (h.below hb0 (Nat.le_refl _)) hm (hR.below hb0)
  have hz := grps_nil_iff h.1
  have hlt := (grps_length_iff m N).1 (Nat.le_of_eq h.1)
  have CT := Lib.hid ct; have HW := Lib.hid hW0; have HB := Lib.hid hb0
  clear ct hW0 hb0 hk h hR
  cases b with
  | false =>
    have he : textI (intD false N) = byteL (textN N) := by
      show textI (N : Int) = _
      unfold textI
      rw [if_neg (by omega), Int.natAbs_natCast]
      rfl
    rw [he]
    clear he hz
    go_enter Tryd.func34, Tryd.ntmps34
    go_wp2_with (rw [HW.out])
    refine CT.out.mono ?_
    rintro e w5 ⟨rfl, hb⟩
    have HB5 := Lib.hid (below_of HB.out hb)
    clear hb
    go_wp2_with fail
    go_ret
    exact ⟨rfl, HB5.out⟩
  | true =>
    by_cases h0 : m = 0
    · have hN := hz.2 h0
      subst hN
      have he : textI (intD true 0) = byteL (textN 0) := rfl
      rw [he]
      subst h0
      clear he hz
      go_enter Tryd.func34, Tryd.ntmps34
      go_wp2_with (rw [HW.out])
      refine CT.out.mono ?_
      rintro e w5 ⟨rfl, hb⟩
      have HB5 := Lib.hid (below_of HB.out hb)
      clear hb
      go_wp2_with fail
      go_ret
      exact ⟨rfl, HB5.out⟩
    · have hN : N ≠ 0 := fun e => h0 (hz.1 e)
      have hmi : (0 : Int) < (m : Int) := by omega
      have he : textI (intD true N) = ⟨#[45]⟩ ++ byteL (textN N) := by
        rw [minus_app]
        unfold textI intD
        rw [if_pos (by simp; omega)]
        simp
      rw [he]
      have hTs : ¬ 9223372036854775807 < 1 + (byteL (textN N)).size := by
        rw [byteL_size]
        have := textN_len_le hlt
        omega
      obtain ⟨T, hT⟩ : ∃ T, byteL (textN N) = T := ⟨_, rfl⟩
      rw [hT] at CT hTs ⊢
      clear he hz hT
      go_enter Tryd.func34, Tryd.ntmps34
      go_wp2_with (rw [HW.out])
      refine CT.out.mono ?_
      rintro e w5 ⟨rfl, hb⟩
      have HB5 := Lib.hid (below_of HB.out hb)
      clear hb
      go_wp2_with fail
      go_ret
      exact ⟨rfl, HB5.out⟩

/-- The order of two numbers. -/
def sgnI (x y : Int) : Int := if x < y then -1 else if y < x then 1 else 0
theorem two_frame (w : World) (b1 b2 : Bool) (a1 a2 : Option Addr) (m1 m2 c1 c2 : Nat) : ∃ W0, (w.alloc (.cells #[.bool b1, .slice a1 m1 c1] 51)).alloc (.cells #[.bool b2, .slice a2 m2 c2] 51) = W0 ∧
    Below w.heap.size w W0 ∧ W0.heap[w.heap.size]? = some (.cells #[.bool b1, .slice a1 m1 c1] 51) ∧ W0.heap[w.heap.size + 1]? = some (.cells #[.bool b2, .slice a2 m2 c2] 51) := by
  refine ⟨_, rfl, ((Below.refl _ _).alloc (Nat.le_refl _) _).alloc (by simp) _, ?_, ?_⟩
  · rw [Below.heap_alloc _ _ _ (by simp)]
    exact heap_alloc_new _ _
  · have := heap_alloc_new (w.alloc (.cells #[.bool b1, .slice a1 m1 c1] 51)) (.cells #[.bool b2, .slice a2 m2 c2] 51)
    rw [World.size_alloc] at this
    exact this
theorem cmpI_cases (m n : Nat) : cmpI m n = sgnI (m : Int) (n : Int) ∧ cmpI n m = sgnI (-(m : Int)) (-(n : Int)) := by
  unfold cmpI sgnI
  constructor <;> (split <;> split <;> (try split) <;> (try split) <;> omega)
set_option maxHeartbeats 4000000 in
theorem numCmp_any (b1 b2 : Bool) (N1 N2 : Nat) (z1 : b1 = true → N1 ≠ 0) (z2 : b2 = true → N2 ≠ 0) (a1 a2 : Option Addr) (m1 m2 c1 c2 : Nat) (w : World) (h1 : NatAt w a1 m1 c1 N1) (h2 : NatAt w a2 m2 c2 N2) :
    Calls Tryd.prog 32 #[.agg #[.bool b1, .slice a1 m1 c1], .agg #[.bool b2, .slice a2 m2 c2]] w fun e w' => e = .returned (.int .i64 (sgnI (intD b1 N1) (intD b2 N2))) ∧ Below w.heap.size w w' := by
  obtain ⟨W0, hW0, hb0, k1, k2⟩ := two_frame w b1 b2 a1 a2 m1 m2 c1 c2
  have cc := compare_any N1 N2 a1 a2 c1 c2 m1 m2 W0 (h1.below hb0 (Nat.le_refl _)) (h2.below hb0 (Nat.le_refl _))
  have cd := compare_any N2 N1 a2 a1 c2 c1 m2 m1 W0 (h2.below hb0 (Nat.le_refl _)) (h1.below hb0 (Nat.le_refl _))
  rw [(cmpI_cases N1 N2).1] at cc
  rw [(cmpI_cases N1 N2).2] at cd
  obtain ⟨p1, p2, _, _⟩ := num_cells k1
  obtain ⟨p3, p4, _, _⟩ := num_cells k2
  have HW := Lib.hid hW0; have HB := Lib.hid hb0
  clear hW0 hb0 k1 k2 h1 h2
  cases b1 <;> cases b2
  · have he : sgnI (intD false N1) (intD false N2) = sgnI (N1 : Int) (N2 : Int) := rfl
    rw [he]
    obtain ⟨R, hR⟩ : ∃ R, sgnI (N1 : Int) (N2 : Int) = R := ⟨_, rfl⟩
    rw [hR] at cc ⊢
    have CC := Lib.hid cc
    clear cc cd he hR z1 z2
    go_enter Tryd.func32, Tryd.ntmps32
    go_wp2_with (rw [HW.out])
    refine CC.out.mono ?_
    rintro e w5 ⟨rfl, hb⟩
    have HB5 := Lib.hid (below_of HB.out hb)
    clear hb
    go_wp2_with fail
    go_ret
    exact ⟨rfl, HB5.out⟩
  · have he : sgnI (intD false N1) (intD true N2) = 1 := by
      have := z2 rfl
      unfold sgnI
      rw [if_neg (by simp [intD] <;> omega), if_pos (by simp [intD] <;> omega)]
    rw [he]
    clear cc cd he z1 z2
    go_enter Tryd.func32, Tryd.ntmps32
    go_wp2_with (rw [HW.out])
    go_ret
    exact ⟨rfl, HB.out⟩
  · have he : sgnI (intD true N1) (intD false N2) = -1 := by
      have := z1 rfl
      unfold sgnI
      rw [if_pos (by simp [intD] <;> omega)]
    rw [he]
    clear cc cd he z1 z2
    go_enter Tryd.func32, Tryd.ntmps32
    go_wp2_with (rw [HW.out])
    go_ret
    exact ⟨rfl, HB.out⟩
  · have he : sgnI (intD true N1) (intD true N2) = sgnI (-(N1 : Int)) (-(N2 : Int)) := rfl
    rw [he]
    obtain ⟨R, hR⟩ : ∃ R, sgnI (-(N1 : Int)) (-(N2 : Int)) = R := ⟨_, rfl⟩
    rw [hR] at cd ⊢
    have CC := Lib.hid cd
    clear cc cd he hR z1 z2
    go_enter Tryd.func32, Tryd.ntmps32
    go_wp2_with (rw [HW.out])
    refine CC.out.mono ?_
    rintro e w5 ⟨rfl, hb⟩
    have HB5 := Lib.hid (below_of HB.out hb)
    clear hb
    go_wp2_with fail
    go_ret
    exact ⟨rfl, HB5.out⟩
end Go.Proofs.YtildgpahacaglaaDoor
