/-
  Layer 8: the contract of the reference's Reading.
-/
import Derived.Test.YtifdcfjllonmgaaDoorHg
namespace Go.Proofs.YtifdcfjllonmgaaDoor
open Go Go.Proofs Go.RowKit Go.Lib

def readB (c : Cl) (t : Int) : Bool := ckB c && inB t (-17592186044416) 17592186044416
open Classical in
/-- What a clock shows at a time; 0 if there is no reading. -/
noncomputable def readV (c : Cl) (t : Int) : Int := if readB c t = true then (if h : ∃ r, IsRead c t r then Classical.choose h else 0) else 0
def readE (c : Cl) (t : Int) : Int := if readB c t = true then 0 else 80
theorem readV_of {c : Cl} {t r : Int} (hb : readB c t = true) (h : IsRead c t r) : readV c t = r := by
  have hv := hb
  unfold readB at hv
  rw [Bool.and_eq_true] at hv
  obtain ⟨_, ⟨h0, h1⟩, _, hne⟩ := ckB_of hv.1
  unfold readV
  rw [if_pos hb, dif_pos ⟨r, h⟩]
  exact isRead_one h0 h1 hne (Classical.choose_spec (⟨r, h⟩ : ∃ r, IsRead c t r)) h
theorem half8 {lo hi : Int} (h : lo + 2 ≤ hi) : lo < (lo + hi).tdiv 2 ∧ (lo + hi).tdiv 2 < hi := by
  rcases Int.lt_or_le (lo + hi) 0 with h3 | h3
  · have e : (lo + hi).tdiv 2 = -((-(lo + hi)).tdiv 2) := by rw [Int.neg_tdiv, Int.neg_neg]
    rw [e, Int.tdiv_eq_ediv_of_nonneg (by omega)]
    omega
  · rw [Int.tdiv_eq_ediv_of_nonneg h3]
    omega
set_option maxRecDepth 100000 in
set_option maxHeartbeats 4000000 in
theorem readingR_any (v : Value) (c : Cl) (t : Int) (w : World) (hc : CkAt w v c) (hl : c.an.length ≤ maxLen) :
    Calls Tryd.prog 28 #[v, .int .i64 t] w fun e w' => e = .returned (.tuple #[.int .i64 (readV c t), .int .i64 (readE c t)]) ∧ Below w.heap.size w w' := by
  have HCK := Lib.hid (fun W (b : Below w.heap.size w W) => hc.below b)
  obtain ⟨ad, cp, rfl, hI⟩ := hc
  have HML := Lib.hid hl
  have CV := Lib.hid (fun W (h : CkAt W (.agg #[.int .i64 c.dr, .slice ad c.an.length cp]) c) => validClockR_any _ c W h HML.out)
  obtain ⟨RV, hRV⟩ : ∃ RV, readV c t = RV := ⟨_, rfl⟩
  obtain ⟨RE, hRE⟩ : ∃ RE, readE c t = RE := ⟨_, rfl⟩
  rw [hRV, hRE]
  have HNO := Lib.hid (fun h : readB c t = false => show RV = 0 ∧ RE = 80 by rw [← hRV, ← hRE]; unfold readV readE; simp [h])
  have HYES := Lib.hid (fun (h : readB c t = true) (r : Int) (h2 : IsRead c t r) => show RV = r ∧ RE = 0 by rw [← hRV, ← hRE]; exact ⟨readV_of h h2, by unfold readE; rw [if_pos h]⟩)
  have HX := Lib.hid (fun o => (Below.refl w.heap.size w).alloc (Nat.le_refl _) o)
  clear hl hI hRV hRE
  go_enter Tryd.func28, Tryd.ntmps28
  go_wp2_with fail
  refine (CV.out _ (HCK.out _ (HX.out _))).mono ?_
  rintro e w1 ⟨rfl, hb⟩
  have HB := Lib.hid ((HX.out _).trans (hb.mono (by simp)))
  obtain ⟨k0, k1⟩ : w1.cell? ⟨w.heap.size, 0, none⟩ = some (.int .i64 c.dr) ∧ w1.cell? ⟨w.heap.size, 1, none⟩ = some (.slice ad c.an.length cp) := by
    refine ⟨(hb.cell (p := ⟨w.heap.size, 0, none⟩) (by simp)).trans ?_, (hb.cell (p := ⟨w.heap.size, 1, none⟩) (by simp)).trans ?_⟩
    · rw [cell_of_row _ w.heap.size 0 _ _ _ (heap_alloc_new w _)]; rfl
    · rw [cell_of_row _ w.heap.size 1 _ _ _ (heap_alloc_new w _)]; rfl
  have hz : w.heap.size < w1.heap.size := by have := hb.size; simp at this; omega
  clear hb
  cases hv : ckB c with
  | false =>
    have HF := Lib.hid (HNO.out (by unfold readB; rw [hv]; rfl))
    go_wp2_with fail
    go_ret2
    exact ⟨by rw [HF.out.1, HF.out.2]; rfl, HB.out⟩
  | true =>
    have HV := Lib.hid hv
    clear hv
    cases ht : inB t (-17592186044416) 17592186044416 with
    | false =>
      have HF := Lib.hid (HNO.out (by unfold readB; rw [HV.out, ht]; rfl))
      go_wp2_with (go_at_call 42; ((with_reducible refine (in_any _ _ _ _).mono ?_); rintro e w' ⟨rfl, rfl⟩))
      go_ret2
      exact ⟨by rw [HF.out.1, HF.out.2]; rfl, HB.out⟩
    | true =>
      have HF := Lib.hid (HYES.out (by unfold readB; rw [HV.out, ht]; rfl))
      obtain ⟨t1, t2⟩ := of_inB ht
      obtain ⟨l1, l2⟩ := begN_low HV.out
      go_wp2_with (go_at_call 42; ((with_reducible refine (in_any _ _ _ _).mono ?_); rintro e w' ⟨rfl, rfl⟩))
      go_loopw [6, 7] (fun lo hi wr => ∃ x y : Int, lo = .int .i64 x ∧ hi = .int .i64 y ∧ x < y ∧ -134217728 ≤ x ∧ y ≤ 134217728 ∧ Hid (begN c.dr x c.an ≤ t ∧ t < begN c.dr y c.an) ∧ Hid (Below w.heap.size w wr) ∧ Hid (wr.cell? ⟨w.heap.size, 0, none⟩ = some (.int .i64 c.dr) ∧ wr.cell? ⟨w.heap.size, 1, none⟩ = some (.slice ad c.an.length cp) ∧ w.heap.size < wr.heap.size)) (fun lo hi _ => (RowKit.intOf hi - RowKit.intOf lo).toNat)
      case atStart => exact ⟨_, _, rfl, rfl, by decide, by decide, by decide, Lib.hid ⟨by omega, by omega⟩, HB, Lib.hid ⟨k0, k1, hz⟩⟩
      case round =>
        obtain ⟨x, y, rfl, rfl, hxy, hx, hy, HXY, HB2, HK⟩ := hrel
        obtain ⟨j0, j1, j2⟩ := HK.out
        clear k0 k1
        by_cases hlt : x + 2 ≤ y
        · have hki : decide (1 < y - x) = true := decide_eq_true (by omega)
          obtain ⟨m1, m2⟩ := half8 hlt
          go_wp2_with fail
          generalize (x + y).tdiv 2 = m at *
          refine (beginsR_any _ c m _ (HCK.out _ HB2.out) HV.out (by omega) (by omega)).mono ?_
          rintro e w2 ⟨rfl, hb⟩
          have HB3 := Lib.hid (below_up8 HB2.out hb)
          have HK3 := Lib.hid (show w2.cell? ⟨w.heap.size, 0, none⟩ = some (.int .i64 c.dr) ∧ w2.cell? ⟨w.heap.size, 1, none⟩ = some (.slice ad c.an.length cp) ∧ w.heap.size < w2.heap.size from
            ⟨(hb.cell (p := ⟨w.heap.size, 0, none⟩) j2).trans j0, (hb.cell (p := ⟨w.heap.size, 1, none⟩) j2).trans j1, by have := hb.size; omega⟩)
          clear hb j0 j1
          by_cases hle : begN c.dr m c.an ≤ t
          · have HM := Lib.hid hle
            go_wp2_with fail
            go_roundw
            case rel => exact ⟨m, y, rfl, rfl, m2, by omega, hy, Lib.hid ⟨HM.out, HXY.out.2⟩, HB3, HK3⟩
            case measure => simp [RowKit.intOf]; omega
          · have HM := Lib.hid hle
            go_wp2_with fail
            go_roundw
            case rel => exact ⟨x, m, rfl, rfl, m1, hx, by omega, Lib.hid ⟨HXY.out.1, by have := HM.out; omega⟩, HB3, HK3⟩
            case measure => simp [RowKit.intOf]; omega
        · obtain rfl : y = x + 1 := by omega
          have HR := Lib.hid (HF.out x HXY.out)
          have hki : decide (1 < x + 1 - x) = false := decide_eq_false (by omega)
          go_wp2_with fail
          go_ret2
          exact ⟨by rw [HR.out.1, HR.out.2]; rfl, HB2.out⟩
end Go.Proofs.YtifdcfjllonmgaaDoor
