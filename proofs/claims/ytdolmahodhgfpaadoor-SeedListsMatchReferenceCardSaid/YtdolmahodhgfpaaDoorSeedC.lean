/-
  The contract of the reference's Draw.
-/
import Derived.Test.YtdolmahodhgfpaaDoorSeedB
namespace Go.Proofs.YtdolmahodhgfpaaDoor
open Go Go.Proofs Go.RowKit Go.Lib

theorem rawV_yes {s : ByteArray} {i : Int} (h : namedB s i = true) {k : Nat} (hk : k < 64) : rawV s i k = ((rawS s i k : Nat) : Int) ∧ rawE s i k = 0 := by
  have hb : rawB s i k = true := by unfold rawB; rw [h, decide_eq_true (show _ from ⟨by omega, by omega⟩)]; rfl
  unfold rawV rawE
  rw [hb]
  exact ⟨rfl, rfl⟩
theorem rawV_no {s : ByteArray} {i : Int} (h : namedB s i = false) (j : Int) : rawV s i j = 0 ∧ rawE s i j = 60 := by
  have hb : rawB s i j = false := by unfold rawB; rw [h]; rfl
  unfold rawV rawE
  rw [hb]
  exact ⟨rfl, rfl⟩
theorem draw_none {s : ByteArray} {i b : Int} (h : drawO s i b = none) : drawV s i b = 0 ∧ drawE s i b = 60 := by unfold drawV drawE; rw [h]; exact ⟨rfl, rfl⟩
theorem draw_some {s : ByteArray} {i b n : Int} (h : drawO s i b = some n) : drawV s i b = n ∧ drawE s i b = 0 := by unfold drawV drawE; rw [h]; exact ⟨rfl, rfl⟩
theorem ret_draw {a b c d : Int} (h : a = c) (h2 : b = d) : Ending.returned (.tuple #[.int .i64 a, .int .i64 b]) = .returned (.tuple #[.int .i64 c, .int .i64 d]) := by rw [h, h2]
set_option maxRecDepth 100000 in
set_option maxHeartbeats 16000000 in
theorem drawR_any (s : ByteArray) (hs : s.size ≤ maxLen) (i b : Int) (w : World) : Calls Tryd.prog 18 #[.string s, .int .i64 i, .int .i64 b] w fun e w' => e = .returned (.tuple #[.int .i64 (drawV s i b), .int .i64 (drawE s i b)]) ∧ Below w.heap.size w w' := by
  cases hn : namedB s i with
  | false =>
    have cr := fun W => rawR_any s hs i 0 W
    rw [(rawV_no hn 0).1, (rawV_no hn 0).2] at cr
    have ho : drawO s i b = none := by unfold drawO; rw [hn]; rfl
    rw [(draw_none ho).1, (draw_none ho).2]
    have CR := Lib.hid cr
    clear cr hn ho
    go_enter Tryd.func18, Tryd.ntmps18
    go_wp2_with fail
    go_loopw [8] (fun j wr => j = .int .i64 0 ∧ wr = w) (fun _ _ => 0)
    case atStart => exact ⟨rfl, rfl⟩
    case round =>
      obtain ⟨rfl, rfl⟩ := hrel
      go_wp2_with fail
      refine (CR.out _).mono ?_
      rintro e z ⟨rfl, bz⟩
      go_wp2
      go_ret2
      exact ⟨rfl, bz⟩
  | true =>
    have cr := fun (k : Nat) (hk : k < 64) W => rawR_any s hs i k W
    have hv := fun (k : Nat) (hk : k < 64) => rawV_yes hn hk
    have cd := fun raw W => reduceR_any raw b W
    have ho : drawO s i b = drawF s i b 64 0 := by unfold drawO; rw [hn]; rfl
    have CR := Lib.hid (fun (k : Nat) (hk : k < 64) W => show Calls Tryd.prog 14 #[.string s, .int .i64 i, .int .i64 (k : Int)] W fun e w' => e = .returned (.tuple #[.int .i64 ((rawS s i k : Nat) : Int), .int .i64 0]) ∧ Below W.heap.size W w' from by
      have := cr k hk W
      rw [(hv k hk).1, (hv k hk).2] at this
      exact this)
    have CD := Lib.hid cd; have HO := Lib.hid ho
    clear cr hv cd ho hn
    go_enter Tryd.func18, Tryd.ntmps18
    go_wp2_with fail
    go_loopw [8] (fun j wr => ∃ k : Nat, k ≤ 64 ∧ j = .int .i64 k ∧ Hid (drawO s i b = drawF s i b (64 - k) k) ∧ Hid (Below w.heap.size w wr)) (fun j _ => 64 - (RowKit.intOf j).toNat)
    case atStart => exact ⟨0, by omega, rfl, HO, Lib.hid (Below.refl _ _)⟩
    case round =>
      obtain ⟨k, hk, rfl, HK, HB⟩ := hrel
      by_cases h6 : k < 64
      · have hki : (k : Int) < 64 := by omega
        have HST := Lib.hid (drawF_step (s := s) (i := i) (b := b) h6)
        have H6 := Lib.hid h6; have HKI := Lib.hid hki
        go_wp2_with fail
        refine (CR.out k H6.out _).mono ?_
        rintro e z1 ⟨rfl, b1⟩
        have B1 := Lib.hid (below_up6 HB.out b1)
        clear b1
        go_wp2_with fail
        refine (CD.out _ _).mono ?_
        rintro e z2 ⟨rfl, rfl⟩
        cases hr : redB (rawS s i k) b with
        | true =>
          have h9 := HK.out
          rw [HST.out, if_pos hr] at h9
          have H9 := Lib.hid (draw_some h9)
          clear h9 hr
          go_wp2
          go_ret2
          exact ⟨ret_draw H9.out.1.symm H9.out.2.symm, B1.out⟩
        | false =>
          have h9 := HK.out
          rw [HST.out, if_neg (by rw [hr]; decide)] at h9
          have H9 := Lib.hid h9
          clear h9 hr
          have hki := HKI.out
          go_wp2_with fail
          go_roundw
          case rel => exact ⟨k + 1, by omega, by go_num, H9, B1⟩
          case measure => simp [RowKit.intOf]; omega
      · obtain rfl : k = 64 := by omega
        have H9 := Lib.hid (draw_none (s := s) (i := i) (b := b) HK.out)
        go_wp2
        go_ret2
        exact ⟨ret_draw H9.out.1.symm H9.out.2.symm, HB.out⟩
end Go.Proofs.YtdolmahodhgfpaaDoor
