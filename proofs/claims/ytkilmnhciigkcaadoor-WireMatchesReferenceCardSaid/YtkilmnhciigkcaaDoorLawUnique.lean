/-
  WireUnique returns true for all arguments: the walk.
-/
import Derived.Test.YtkilmnhciigkcaaDoorSane
import Derived.Test.YtkilmnhciigkcaaDoorUniq
import Derived.RegionTactic
import Derived.ChangeAlike
namespace Go.Proofs.YtkilmnhciigkcaaDoor
open Go Go.Proofs Go.RowKit Go.Lib

theorem one_byte (w : World) (first : Int) (f0 : 0 ≤ first) (f1 : first ≤ 255) (f : ByteArray) (hf : f = ⟨#[UInt8.ofNat first.toNat]⟩) :
    (convert 38 9 (.slice (some ⟨w.heap.size, 0, none⟩) 1 1)).run Tryd.prog (w.alloc (.cells #[.int .u8 first] 5)).drew = .ok (.string f) (w.alloc (.cells #[.int .u8 first] 5)).drew := by
  have h := one_cell _ _ _ _ (World.alloc_heap_new w (.cells #[.int .u8 first] 5))
  have hs : f.size = 1 := by rw [hf]; rfl
  have := run_convert_whole (P := Tryd.prog) (w.alloc (.cells #[.int .u8 first] 5)).drew 38 5 9 Tryd.underlying38 Tryd.underlying5 Tryd.underlying9 w.heap.size 0 f (by
    intro i hi
    obtain rfl : i = 0 := by omega
    show (w.alloc (.cells #[.int .u8 first] 5)).cell? ⟨w.heap.size, 0, none⟩ = _
    rw [h.1]
    subst hf
    have e : ((UInt8.ofNat first.toNat).toNat : Int) = first := by simp; omega
    exact congrArg (fun n => some (Value.int .u8 n)) e.symm) 1
  rw [hs] at this
  exact this

theorem cells2' (w : World) (v0 v1 : Value) (T : TypeId) :
    (w.alloc (.cells #[v0, v1] T)).cell? ⟨w.heap.size, 0, none⟩ = some v0 ∧ (w.alloc (.cells #[v0, v1] T)).cell? ⟨w.heap.size, 1, none⟩ = some v1 := by
  have h := World.alloc_heap_new w (.cells #[v0, v1] T)
  generalize w.alloc (.cells #[v0, v1] T) = W at h ⊢
  constructor <;> simp [World.cell?, h]

set_option maxRecDepth 100000 in
set_option maxHeartbeats 4000000 in
theorem unique_walk (text : ByteArray) (a first : Int) (ht : text.size ≤ maxLen) (a0 : -9223372036854775808 ≤ a) (a1 : a ≤ 9223372036854775807)
    (f0 : 0 ≤ first) (f1 : first ≤ 255) (w : World) (hT : HasTab w) (h0 : 0 < w.heap.size) :
    Calls Tryd.prog 5 #[.string text, .int .i64 a, .int .u8 first] w fun e w' => e = .returned (.bool true) ∧ Below w.heap.size w w' := by
  unfold maxLen at ht
  obtain ⟨m, hm⟩ : ∃ m, m = min text.size 300 := ⟨_, rfl⟩
  have hmn1 : min (text.size : Int) 300 = (m : Int) := by omega
  obtain ⟨r, hr⟩ : ∃ t, text.extract 0 m = t := ⟨_, rfl⟩
  have r2 : r.size ≤ 300 := by rw [← hr]; simp; omega
  have hsl1 := fun w' => slice_to (P := Tryd.prog) 9 Tryd.underlying9 text (m : Int) m rfl (by omega) r hr w'
  clear hm hr
  go_enter Tryd.func5, Tryd.ntmps5
  go_wp2_with fail
  refine (sane_any _ hT h0).mono ?_
  rintro e w1 ⟨rfl, b1⟩
  obtain ⟨f, hf⟩ : ∃ f : ByteArray, f = ⟨#[UInt8.ofNat first.toNat]⟩ := ⟨_, rfl⟩
  have hconv := one_byte w1 first f0 f1 f hf
  have fs : f.size = 1 := by rw [hf]; rfl
  have hcat : f.size + r.size ≤ 9223372036854775807 := by omega
  have FS := Lib.hid fs
  clear hf fs
  go_wp2_with fail
  go_region
  obtain ⟨W2, hW2⟩ : ∃ W2, (w1.alloc (.cells #[.int .u8 first] 5)).drew = W2 := ⟨_, rfl⟩
  obtain ⟨t, htd⟩ : ∃ t, f ++ r = t := ⟨_, rfl⟩
  have hts : t.size ≤ 301 := by have := FS.out; rw [← htd]; simp; omega
  have hb2 : Below w.heap.size w W2 := b1.trans (by rw [← hW2]; exact ((Below.refl _ w1).alloc b1.size _).trans ⟨rfl, rfl, rfl, Nat.le_refl _, fun _ _ => rfl⟩)
  rw [hW2, htd]
  clear hW2 htd hconv hcat
  obtain ⟨j, hj⟩ : ∃ j : Nat, pickI a ((t.size : Int) + 1) = (j : Int) := Int.eq_ofNat_of_zero_le (pickI_lo (by omega))
  have hj2 : j ≤ t.size := by have := pickI_hi (c := a) (n := (t.size : Int) + 1) (by omega); omega
  have HJ := Lib.hid hj
  clear hj
  go_wp2_with fail
  refine (pick_any a ((t.size : Int) + 1) a0 a1 (by omega) (by omega) _).mono ?_
  rw [HJ.out]
  rintro e w3 ⟨rfl, rfl⟩
  obtain ⟨B, hB⟩ : ∃ B, W2.heap.size = B := ⟨_, rfl⟩
  have hcs := cells2' W2 (.int .i64 0) (.int .i64 (j : Int)) 3
  have hb3 : Below w.heap.size w (W2.alloc (.cells #[.int .i64 0, .int .i64 (j : Int)] 3)) := hb2.trans ((Below.refl _ _).alloc hb2.size _)
  rw [hB] at hcs
  have HB := Lib.hid hB
  clear hB
  go_wp2
  obtain ⟨W3, hW3⟩ : ∃ W3, W2.alloc (.cells #[.int .i64 0, .int .i64 (j : Int)] 3) = W3 := ⟨_, rfl⟩
  rw [hW3] at hcs hb3 ⊢
  rw [HB.out]
  obtain ⟨hc0, hc1⟩ := hcs
  have T0 := Lib.hid hts
  clear hW3
  go_loopw [38] (fun i wr => ∃ k : Nat, k ≤ 2 ∧ i = .int .i64 k ∧ Below w.heap.size w wr ∧ wr.cell? ⟨B, 0, none⟩ = some (.int .i64 0) ∧ wr.cell? ⟨B, 1, none⟩ = some (.int .i64 (j : Int))) (fun i _ => 2 - (RowKit.intOf i).toNat)
  case atStart => exact ⟨0, by omega, rfl, hb3, hc0, hc1⟩
  case round =>
    obtain ⟨k, hk, rfl, hbr, hr0, hr1⟩ := hrel
    by_cases hk2 : k < 2
    · obtain ⟨p, hp, hcell⟩ : ∃ p : Nat, p ≤ t.size ∧ wr.cell? ⟨B, k, none⟩ = some (.int .i64 (p : Int)) := by
        have : k = 0 ∨ k = 1 := by omega
        rcases this with rfl | rfl
        · exact ⟨0, by omega, hr0⟩
        · exact ⟨j, hj2, hr1⟩
      have hBlt : B < wr.heap.size := block_of_cell hr0
      have hk3 : (k : Int) < 2 := by omega
      have ck0 := int_cases t (by unfold maxLen; omega) p hp
      have ck1 := string_cases t (by unfold maxLen; omega) p hp
      have HR0 := Lib.hid hr0
      have HR1 := Lib.hid hr1
      clear hr0 hr1 hc0 hc1
      rcases ck0 with hI | ⟨x, e1, x0, x1, pe1, e1t, hx1, hI⟩
      · have HI := Lib.hid hI
        clear hI
        go_wp2_with fail
        refine (HI.out _).mono ?_
        rintro e w4 ⟨rfl, rfl⟩
        go_wp2_with fail
        refine (putInt_yes 0 (by omega) (by omega) _).mono ?_
        rintro e w4 ⟨rfl, b4⟩
        rcases ck1 with hS | ⟨v, e2, v2, pe2, e2t, hx2, hS⟩
        · have HS := Lib.hid hS
          clear hS
          go_wp2_with fail
          refine (HS.out _).mono ?_
          rintro e w5 ⟨rfl, rfl⟩
          have b5 : Below w4.heap.size w4 w4 := Below.refl _ _
          go_wp2_with fail
          refine (putString_yes ByteArray.empty (by first | exact v2 | decide) _).mono ?_
          rintro e w6 ⟨rfl, b6⟩
          have b := b4.trans ((b5.trans (b6.mono b5.size)).mono b4.size)
          have BC := Lib.hid b
          clear b
          go_wp2
          go_roundw
          case rel => exact ⟨k + 1, by omega, by go_num, hbr.trans (BC.out.mono hbr.size), (BC.out.cell (p := ⟨B, 0, none⟩) hBlt).trans HR0.out, (BC.out.cell (p := ⟨B, 1, none⟩) hBlt).trans HR1.out⟩
          case measure => simp [RowKit.intOf]; omega
        · have HS := Lib.hid hS
          have hsl2 := fun w' => by have h := slice_at (P := Tryd.prog) 9 Tryd.underlying9 t (p : Int) (e2 : Int) p e2 rfl rfl pe2 e2t w'; rw [hx2] at h; exact h
          have hpe2 : (p : Int) ≤ (e2 : Int) := by omega
          have hpt2 : (e2 : Int) ≤ (t.size : Int) := by omega
          clear hx2
          clear hS
          go_wp2_with fail
          refine (HS.out _).mono ?_
          rintro e w5 ⟨rfl, b5⟩
          go_wp2_with fail
          refine (putString_yes v (by first | exact v2 | decide) _).mono ?_
          rintro e w6 ⟨rfl, b6⟩
          have b := b4.trans ((b5.trans (b6.mono b5.size)).mono b4.size)
          have BC := Lib.hid b
          clear b
          go_wp2
          go_roundw
          case rel => exact ⟨k + 1, by omega, by go_num, hbr.trans (BC.out.mono hbr.size), (BC.out.cell (p := ⟨B, 0, none⟩) hBlt).trans HR0.out, (BC.out.cell (p := ⟨B, 1, none⟩) hBlt).trans HR1.out⟩
          case measure => simp [RowKit.intOf]; omega
      · have HI := Lib.hid hI
        have hsl3 := fun w' => by have h := slice_at (P := Tryd.prog) 9 Tryd.underlying9 t (p : Int) (e1 : Int) p e1 rfl rfl pe1 e1t w'; rw [hx1] at h; exact h
        have hpe1 : (p : Int) ≤ (e1 : Int) := by omega
        have hpt1 : (e1 : Int) ≤ (t.size : Int) := by omega
        clear hI hx1
        go_wp2_with fail
        refine (HI.out _).mono ?_
        rintro e w4 ⟨rfl, rfl⟩
        go_wp2_with fail
        refine (putInt_yes x x0 x1 _).mono ?_
        rintro e w4 ⟨rfl, b4⟩
        rcases ck1 with hS | ⟨v, e2, v2, pe2, e2t, hx2, hS⟩
        · have HS := Lib.hid hS
          clear hS
          go_wp2_with fail
          refine (HS.out _).mono ?_
          rintro e w5 ⟨rfl, rfl⟩
          have b5 : Below w4.heap.size w4 w4 := Below.refl _ _
          go_wp2_with fail
          refine (putString_yes ByteArray.empty (by first | exact v2 | decide) _).mono ?_
          rintro e w6 ⟨rfl, b6⟩
          have b := b4.trans ((b5.trans (b6.mono b5.size)).mono b4.size)
          have BC := Lib.hid b
          clear b
          go_wp2
          go_roundw
          case rel => exact ⟨k + 1, by omega, by go_num, hbr.trans (BC.out.mono hbr.size), (BC.out.cell (p := ⟨B, 0, none⟩) hBlt).trans HR0.out, (BC.out.cell (p := ⟨B, 1, none⟩) hBlt).trans HR1.out⟩
          case measure => simp [RowKit.intOf]; omega
        · have HS := Lib.hid hS
          have hsl2 := fun w' => by have h := slice_at (P := Tryd.prog) 9 Tryd.underlying9 t (p : Int) (e2 : Int) p e2 rfl rfl pe2 e2t w'; rw [hx2] at h; exact h
          have hpe2 : (p : Int) ≤ (e2 : Int) := by omega
          have hpt2 : (e2 : Int) ≤ (t.size : Int) := by omega
          clear hx2
          clear hS
          go_wp2_with fail
          refine (HS.out _).mono ?_
          rintro e w5 ⟨rfl, b5⟩
          go_wp2_with fail
          refine (putString_yes v (by first | exact v2 | decide) _).mono ?_
          rintro e w6 ⟨rfl, b6⟩
          have b := b4.trans ((b5.trans (b6.mono b5.size)).mono b4.size)
          have BC := Lib.hid b
          clear b
          go_wp2
          go_roundw
          case rel => exact ⟨k + 1, by omega, by go_num, hbr.trans (BC.out.mono hbr.size), (BC.out.cell (p := ⟨B, 0, none⟩) hBlt).trans HR0.out, (BC.out.cell (p := ⟨B, 1, none⟩) hBlt).trans HR1.out⟩
          case measure => simp [RowKit.intOf]; omega
    · go_wp2
      go_ret
      exact ⟨rfl, hbr⟩
end Go.Proofs.YtkilmnhciigkcaaDoor
