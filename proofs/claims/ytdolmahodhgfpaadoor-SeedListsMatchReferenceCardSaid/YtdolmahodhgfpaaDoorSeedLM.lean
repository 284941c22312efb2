/-
  SeedMatchesReference: its walk.
-/
import Derived.Test.YtdolmahodhgfpaaDoorSeedS
import Derived.Deep.CutRange
import Derived.Deep.DeepCutAuto
namespace Go.Proofs.YtdolmahodhgfpaaDoor
open Go Go.Proofs Go.RowKit Go.Lib

theorem strs_elem6 : Tryd.prog.underlying 24 = some (.slice (Tryd.prog.elem 24)) := by kernel_rfl
theorem strs_cells6 (w : World) : (Go.sizeOf (Tryd.prog.elem 24)).run Tryd.prog w = .ok 1 w := by kernel_rfl
theorem at_strs6 (g n c k : Nat) (hk : k < n) (w : World) : (Instr.indexAt 24 (.slice (some ⟨g, 0, none⟩) n c) (.int .i64 (k : Int))).run Tryd.prog w = .ok (.pointer (some ⟨g, k, none⟩)) w := by
  rw [run_indexAt_slice w 24 _ _ _ _ _ strs_elem6, if_pos (by omega)]
  simp [strs_cells6, add_at, Result.andThen]
/-- Two strings, laid as a slice. -/
def twoS (a b : ByteArray) (k : Nat) : ByteArray := match k with | 0 => a | _ => b
theorem two_cells (W : World) (a b : ByteArray) (t : TypeId) (k : Nat) (hk : k < 2) : (W.alloc (.cells #[.string a, .string b] t)).cell? ⟨W.heap.size, k, none⟩ = some (.string (twoS a b k)) := by
  have e : k = 0 ∨ k = 1 := by omega
  rw [cell_of_row _ W.heap.size k _ _ _ (heap_alloc_new W _)]
  rcases e with rfl | rfl <;> rfl
set_option maxRecDepth 100000 in
set_option maxHeartbeats 16000000 in
theorem seedMatches_walk (s : ByteArray) (i j raw below : Int) (hs : s.size ≤ maxLen) (w : World) (hR : Ready w) :
    Calls Tryd.prog 3 #[.string s, .int .i64 i, .int .i64 j, .int .i64 raw, .int .i64 below] w fun e w' => e = .returned (.bool true) ∧ Below w.heap.size w w' := by
  have CS := Lib.hid (fun W => short6_any s hs W); have CN := Lib.hid (fun W => name6_any s hs W)
  have HSZ := Lib.hid (show ∀ k, (twoS (shortS s) (nameS s) k).size ≤ 50 from fun k => by
    have h1 := shortS_size s; have h2 := nameS_size s
    unfold twoS
    split <;> omega)
  have HR := Lib.hid hR; have SANE := Lib.hid (fun W h => sane6_any W h)
  generalize shortS s = A at *
  generalize nameS s = N at *
  clear hR
  go_enter Tryd.func3, Tryd.ntmps3
  go_wp2_with fail
  refine (SANE.out _ HR.out).mono ?_
  rintro e z1 ⟨rfl, bz⟩
  have P1 := Lib.hid bz
  clear bz
  go_upto_region 2 with fail
  go_cut [31, 32, 33] from 27 to 33 (fun sa sb sc wx => sb = .int .i64 2 ∧ sc = .int .i64 0 ∧ ∃ G : Nat, sa = .slice (some ⟨G, 0, none⟩) 2 2 ∧ Hid (∀ k, k < 2 → ∀ W, Below wx.heap.size wx W → W.cell? ⟨G, k, none⟩ = some (.string (twoS A N k))) ∧ Hid (Below w.heap.size w wx))
  case first =>
    go_wp2_with fail
    refine (CS.out _).mono ?_
    rintro e z ⟨rfl, rfl⟩
    go_wp2_with fail
    refine (CN.out _).mono ?_
    rintro e z ⟨rfl, rfl⟩
    go_wp2_with fail
    go_meet
    exact ⟨rfl, rfl, _, rfl, Lib.hid (fun k hk W b => (b.cell (p := ⟨z1.heap.size, k, none⟩) (by simp)).trans (two_cells z1 A N 9 k hk)), Lib.hid (P1.out.alloc P1.out.size _)⟩
  case rest =>
    obtain ⟨rfl, rfl, G, rfl, HZ, PB⟩ := hcut
    generalize wc = zb at *
    go_wp2_with fail
    go_loopw [33] (fun i wr => ∃ k : Nat, k ≤ 2 ∧ i = .int .i64 k ∧ Hid (Below zb.heap.size zb wr)) (fun i _ => 2 - (RowKit.intOf i).toNat)
    case atStart => exact ⟨0, by omega, rfl, Lib.hid (Below.refl _ _)⟩
    case round =>
      obtain ⟨k, hk, rfl, HBW⟩ := hrel
      by_cases hk2 : k < 2
      · have hki : (k : Int) < 2 := by omega
        have hik := fun W => at_strs6 G 2 2 k hk2 W
        have hct := HZ.out k hk2 wr HBW.out
        have hz := HSZ.out k
        generalize twoS A N k = X at *
        have hxm : X.size ≤ maxLen := by unfold maxLen; omega
        have C1 := Lib.hid (fun W h => raw_u X hxm i j W h); have D1 := Lib.hid (fun W => rawR_any X hxm i j W)
        have C2 := Lib.hid (fun W h => reduce_u raw below W h); have D2 := Lib.hid (fun W => reduceR_any raw below W)
        have C3 := Lib.hid (fun W h => draw_u X hxm i below W h); have D3 := Lib.hid (fun W => drawR_any X hxm i below W)
        generalize rawV X i j = v1 at *
        generalize rawE X i j = e1 at *
        generalize redV raw below = v2 at *
        generalize redB raw below = e2 at *
        generalize drawV X i below = v3 at *
        generalize drawE X i below = e3 at *
        have HK2 := Lib.hid hk2; have HKI := Lib.hid hki
        have HRZ := Lib.hid (HR.out.below PB.out)
        clear hk hk2 hxm hz
        go_wp2_with fail
        refine (C1.out _ (HRZ.out.below HBW.out)).mono ?_
        rintro e z2 ⟨rfl, b⟩
        have P2 := Lib.hid (below_up6 HBW.out b)
        clear b hik hct hki
        go_wp2_with fail
        refine (D1.out _).mono ?_
        rintro e z3 ⟨rfl, b⟩
        have P3 := Lib.hid (below_up6 P2.out b)
        clear b
        go_wp2_with fail
        refine (C2.out _ (HRZ.out.below P3.out)).mono ?_
        rintro e z4 ⟨rfl, b⟩
        have P4 := Lib.hid (below_up6 P3.out b)
        clear b
        go_wp2_with fail
        refine (D2.out _).mono ?_
        rintro e z ⟨rfl, rfl⟩
        go_wp2_with fail
        refine (C3.out _ (HRZ.out.below P4.out)).mono ?_
        rintro e z5 ⟨rfl, b⟩
        have P5 := Lib.hid (below_up6 P4.out b)
        clear b
        go_wp2_with fail
        refine (D3.out _).mono ?_
        rintro e z6 ⟨rfl, b⟩
        have P6 := Lib.hid (below_up6 P5.out b)
        clear b
        have hki := HKI.out; have hk2 := HK2.out
        have hbb : (e2 != e2) = false := by cases e2 <;> rfl
        go_wp2_with fail
        go_roundw
        case rel => exact ⟨k + 1, by omega, by go_num, P6⟩
        case measure => simp [RowKit.intOf]; omega
      · have hki : ¬ (k : Int) < 2 := by omega
        have PE := Lib.hid (below_up6 PB.out HBW.out)
        go_wp2
        go_ret
        exact ⟨rfl, PE.out⟩
end Go.Proofs.YtdolmahodhgfpaaDoor
