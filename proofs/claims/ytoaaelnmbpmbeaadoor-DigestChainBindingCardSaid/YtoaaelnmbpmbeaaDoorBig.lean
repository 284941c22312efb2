/-
  The contracts of areDigests and VerifyExtension for strings of any length.
-/
import Derived.Test.YtoaaelnmbpmbeaaDoorLawBind
namespace Go.Proofs.YtoaaelnmbpmbeaaDoor
open Go Go.Proofs Go.RowKit Go.Lib

theorem dig_big (l : List ByteArray) (ad : Option Addr) (cap : Nat) (w : World) (h : Holds w ad cap l) (hM : ∀ s ∈ l, s.size ≤ 9223372036854775807) :
    Calls Tryd.prog 48 #[.slice ad l.length cap] w fun e w' => e = .returned (.bool (allDig l)) ∧ w = w' := by
  have hlen : l.length ≤ 1099511627776 := h.2.1
  have H := Lib.hid h; have HM := Lib.hid hM
  clear h hM
  obtain ⟨r, hr⟩ : ∃ r, allDig l = r := ⟨_, rfl⟩
  rw [hr]
  have HR := Lib.hid hr
  clear hr
  go_enter Tryd.func48, Tryd.ntmps48
  go_wp2
  go_loop [7] (fun i => ∃ k : Nat, k ≤ l.length ∧ i = .int .i64 k ∧ Hid (allDig (l.take k) = true)) (fun i => l.length - (RowKit.intOf i).toNat)
  case atStart => exact ⟨0, Nat.zero_le _, rfl, (by simp [allDig] : allDig (l.take 0) = true)⟩
  case round =>
    obtain ⟨k, hk, rfl, hd⟩ := hrel
    by_cases hlt : k < l.length
    · have hlt2 : (k : Int) < (l.length : Int) := by omega
      obtain ⟨b, o, rfl, _, hS⟩ := H.out.at (by omega)
      have hcell := hS k hlt
      have hsz := HM.out l[k] (List.getElem_mem _)
      have ht := allDig_take l k hlt
      have hf := allDig_false l k hlt
      obtain ⟨s, hs⟩ : ∃ s, l[k] = s := ⟨_, rfl⟩
      rw [hs] at hcell ht hf hsz
      have HT := Lib.hid ht; have HF := Lib.hid hf; have HS := Lib.hid hS
      clear ht hf hs hS
      by_cases h32 : s.size = 32
      · have h32a : ((s.size : Int) == 32) = true := by rw [beq_iff_eq]; omega
        have h32b : ((s.size : Int) != 32) = false := by rw [bne_eq_false_iff_eq]; omega
        have H32 := Lib.hid h32
        clear h32
        go_wp2
        go_round
        case rel => exact ⟨k + 1, by omega, by go_num, (by rw [HT.out, hd.out, decide_eq_true H32.out]; rfl : allDig (l.take (k + 1)) = true)⟩
        case measure => simp [RowKit.intOf]; omega
      · have h32a : ((s.size : Int) == 32) = false := by rw [beq_eq_false_iff_ne]; omega
        have h32b : ((s.size : Int) != 32) = true := by rw [bne_iff_ne]; omega
        have hrf : r = false := by rw [← HR.out, HF.out h32]
        have HRF := Lib.hid hrf
        clear h32 hrf
        go_wp2
        go_ret
        exact ⟨ret_bool HRF.out.symm, rfl⟩
    · have hk2 : k = l.length := by omega
      have hrt : r = true := by rw [← HR.out, ← hd.out, hk2, List.take_length]
      have HRT := Lib.hid hrt
      clear hrt hk2
      go_wp2
      go_ret
      exact ⟨ret_bool HRT.out.symm, rfl⟩


set_option maxRecDepth 100000 in
set_option maxHeartbeats 4000000 in
theorem verx_big (old : ByteArray) (m : Int) (root : ByteArray) (n : Int) (p : List ByteArray) (ad : Option Addr) (cap : Nat) (w : World) (hn : n ≤ 9223372036854775807) (ho : old.size ≤ 9223372036854775807) (hr : root.size ≤ 9223372036854775807) (hH : Holds w ad cap p) (hM : Small p) (hR : Ready w) :
    Calls Tryd.prog 31 #[.string old, .int .i64 m, .string root, .int .i64 n, .slice ad p.length cap] w fun e w' => e = .returned (.bool (verX old m root n p)) ∧ Below w.heap.size w w' := by
  by_cases hin : 0 ≤ m ∧ m ≤ n
  · obtain ⟨j, rfl⟩ := Int.eq_ofNat_of_zero_le hin.1
    obtain ⟨N, rfl⟩ := Int.eq_ofNat_of_zero_le (show 0 ≤ n by omega)
    have hjN : (j : Int) ≤ (N : Int) := hin.2
    have hjN2 : ¬ (N : Int) < (j : Int) := by omega
    have hbA : Below w.heap.size w (w.alloc (.cells #[.string old, .string root] 9)) := (Below.refl _ _).alloc (Nat.le_refl _) _
    have hHA : Holds (w.alloc (.cells #[.string old, .string root] 9)) ad cap p := hH.below hbA (Nat.le_refl _)
    have hRA := hR.below hbA
    have hd2 := dig_big [old, root] (some ⟨w.heap.size, 0, none⟩) 2 (w.alloc (.cells #[.string old, .string root] 9)) (holds_new w [old, root] 9 (by simp)) (by intro s hs; simp at hs; rcases hs with rfl | rfl <;> assumption)
    rw [allDig_two] at hd2
    have hd2' : Calls Tryd.prog 48 #[.slice (some ⟨w.heap.size, 0, none⟩) 2 2] (w.alloc (.cells #[.string old, .string root] 9)) _ := hd2
    have hd := dig_any p ad cap (w.alloc (.cells #[.string old, .string root] 9)) hHA hM
    cases hdd : decide (old.size = 32 ∧ root.size = 32) with
    | false =>
      have hv : verX old (j : Int) root (N : Int) p = false := by unfold verX; rw [hdd]; simp
      rw [hdd] at hd2'
      have HV := Lib.hid hv; have HD2 := Lib.hid hd2'; have HBA := Lib.hid hbA
      clear hv hd2 hd2' hd hH hM hR hHA hRA hbA hdd hin
      go_enter Tryd.func31, Tryd.ntmps31
      go_wp2_with fail
      refine HD2.out.mono ?_
      rintro e w' ⟨rfl, rfl⟩
      go_wp2
      go_ret
      exact ⟨ret_bool HV.out.symm, HBA.out⟩
    | true =>
      simp only [decide_eq_true_eq] at hdd
      exact verx_any old (j : Int) root (N : Int) p ad cap w hn (by omega) (by omega) hH hM hR
  · have hv : verX old m root n p = false := by unfold verX; rw [decide_eq_false hin]; rfl
    have HV := Lib.hid hv
    clear hv hH hM hR
    by_cases h0 : m < 0
    · clear hin
      go_enter Tryd.func31, Tryd.ntmps31
      go_wp2_with fail
      go_ret
      exact ⟨ret_bool HV.out.symm, Below.refl _ _⟩
    · have h1 : n < m := by omega
      clear hin
      go_enter Tryd.func31, Tryd.ntmps31
      go_wp2_with fail
      go_ret
      exact ⟨ret_bool HV.out.symm, Below.refl _ _⟩
end Go.Proofs.YtoaaelnmbpmbeaaDoor
