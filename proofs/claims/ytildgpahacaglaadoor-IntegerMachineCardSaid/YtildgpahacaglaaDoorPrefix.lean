/-
  The library's functions that look for or cut a minus at a text's beginning.
-/
import Derived.Test.YtildgpahacaglaaDoorDefs3
namespace Go.Proofs.YtildgpahacaglaaDoor
open Go Go.Proofs Go.RowKit Go.Lib

/-- Whether a text begins with a minus; and what stands behind it. -/
def minusB (s : ByteArray) : Bool := decide ((bytesL s).head? = some 45)
def behindB (s : ByteArray) : ByteArray := if minusB s then s.extract 1 s.size else s
theorem one_byte (s : ByteArray) (h : 0 < s.size) : (s.extract 0 1).toList = [s[0]'h] := by
  rw [ByteArray.toList_eq]
  have : (s.extract 0 1).data = #[s[0]'h] := by
    apply Array.ext
    · simp; have := h; simp only [ByteArray.size] at this; omega
    · intro i h1 h2
      simp at h2
      subst h2
      simp
      rfl
  rw [this]
theorem minus_one (s : ByteArray) (h : 0 < s.size) : minusB s = ((s.extract 0 1).toList == [45]) := by
  rw [one_byte s h]
  unfold minusB
  rw [bytesL_cons s h]
  rw [Bool.eq_iff_iff, decide_eq_true_eq, beq_iff_eq]
  simp
  exact ⟨fun e => UInt8.toNat_inj.1 e, fun e => by rw [e]; rfl⟩
theorem minus_none (s : ByteArray) (h : s.size = 0) : minusB s = false := by
  unfold minusB
  have : bytesL s = [] := List.eq_nil_of_length_eq_zero (by rw [bytesL_length]; exact h)
  rw [this]; rfl
theorem slice_to1 (s : ByteArray) (h : 0 < s.size) (w : World) : (Instr.slice 9 (.string s) none (some (.int .i64 1)) none).run Tryd.prog w = .ok (.string (s.extract 0 1)) w := by
  have hj : (0 : Int) ≤ 1 ∧ (1 : Int) ≤ (s.size : Int) := ⟨by omega, by omega⟩
  simp [Instr.slice, Instr.sliceBounds, Instr.sliceBound, asIntOf, run_underlying Tryd.underlying9, hj]
theorem slice_from1 (s : ByteArray) (h : 0 < s.size) (w : World) : (Instr.slice 9 (.string s) (some (.int .i64 1)) none none).run Tryd.prog w = .ok (.string (s.extract 1 s.size)) w := by
  have hj : (0 : Int) ≤ 1 ∧ (1 : Int) ≤ (s.size : Int) := ⟨by omega, by omega⟩
  simp [Instr.slice, Instr.sliceBounds, Instr.sliceBound, asIntOf, run_underlying Tryd.underlying9, hj]

set_option maxHeartbeats 2000000 in
theorem has_any (s : ByteArray) (hs : s.size ≤ 1099511627776) (w : World) :
    Calls Tryd.prog 73 #[.string s, .string ⟨#[45]⟩] w fun e w' => e = .returned (.bool (minusB s)) ∧ w = w' := by
  by_cases h0 : s.size = 0
  · have hm := minus_none s h0
    rw [hm]
    have hi : (s.size : Int) = 0 := by omega
    go_enter Tryd.func73, Tryd.ntmps73
    go_wp2
    go_ret
    exact ⟨rfl, rfl⟩
  · have h1 : 0 < s.size := by omega
    have hm := minus_one s h1
    have hsl := fun w => slice_to1 s h1 w
    have hi : (1 : Int) ≤ (s.size : Int) := by omega
    obtain ⟨T, hT⟩ : ∃ T, s.extract 0 1 = T := ⟨_, rfl⟩
    rw [hT] at hm hsl
    obtain ⟨b, hb⟩ : ∃ b, minusB s = b := ⟨_, rfl⟩
    rw [hb] at hm ⊢
    have hm2 : (T.toList == [45]) = b := hm.symm
    have hm3 : (T.toList == (⟨#[45]⟩ : ByteArray).toList) = b := by rw [hm, ByteArray.toList_eq ⟨#[45]⟩]
    clear hm hb hT h0
    go_enter Tryd.func73, Tryd.ntmps73
    go_wp2
    go_ret
    exact ⟨rfl, rfl⟩

theorem minus_size {s : ByteArray} (h : minusB s = true) : 0 < s.size := by
  rcases Nat.eq_zero_or_pos s.size with h0 | h0
  · rw [minus_none s h0] at h; cases h
  · exact h0
theorem behind_true {s : ByteArray} (h : minusB s = true) : behindB s = s.extract 1 s.size := by unfold behindB; rw [if_pos h]
theorem behind_false {s : ByteArray} (h : minusB s = false) : behindB s = s := by unfold behindB; rw [h]; rfl
set_option maxHeartbeats 2000000 in
theorem litecut_any (s : ByteArray) (hs : s.size ≤ 1099511627776) (w : World) :
    Calls Tryd.prog 70 #[.string s, .string ⟨#[45]⟩] w fun e w' => e = .returned (.tuple #[.string (behindB s), .bool (minusB s)]) ∧ w = w' := by
  have ch := fun w => has_any s hs w
  cases hm : minusB s with
  | false =>
    rw [hm] at ch
    rw [behind_false hm]
    have CH := Lib.hid ch
    clear ch
    go_enter Tryd.func70, Tryd.ntmps70
    go_wp2_with fail
    refine (CH.out _).mono ?_
    rintro e w1 ⟨rfl, rfl⟩
    go_wp2_with fail
    go_ret2
    exact ⟨rfl, rfl⟩
  | true =>
    rw [hm] at ch
    rw [behind_true hm]
    have h1 := minus_size hm
    have hsl := fun w => slice_from1 s h1 w
    have CH := Lib.hid ch
    clear ch
    go_enter Tryd.func70, Tryd.ntmps70
    go_wp2_with fail
    refine (CH.out _).mono ?_
    rintro e w1 ⟨rfl, rfl⟩
    go_wp2_with fail
    go_ret2
    exact ⟨rfl, rfl⟩
set_option maxHeartbeats 2000000 in
theorem litetrim_any (s : ByteArray) (hs : s.size ≤ 1099511627776) (w : World) :
    Calls Tryd.prog 52 #[.string s, .string ⟨#[45]⟩] w fun e w' => e = .returned (.string (behindB s)) ∧ w = w' := by
  have ch := fun w => has_any s hs w
  cases hm : minusB s with
  | false =>
    rw [hm] at ch
    rw [behind_false hm]
    have CH := Lib.hid ch
    clear ch
    go_enter Tryd.func52, Tryd.ntmps52
    go_wp2_with fail
    refine (CH.out _).mono ?_
    rintro e w1 ⟨rfl, rfl⟩
    go_wp2_with fail
    go_ret
    exact ⟨rfl, rfl⟩
  | true =>
    rw [hm] at ch
    rw [behind_true hm]
    have h1 := minus_size hm
    have hsl := fun w => slice_from1 s h1 w
    have CH := Lib.hid ch
    clear ch
    go_enter Tryd.func52, Tryd.ntmps52
    go_wp2_with fail
    refine (CH.out _).mono ?_
    rintro e w1 ⟨rfl, rfl⟩
    go_wp2_with fail
    go_ret
    exact ⟨rfl, rfl⟩
set_option maxHeartbeats 2000000 in
theorem cut_any (s : ByteArray) (hs : s.size ≤ 1099511627776) (w : World) :
    Calls Tryd.prog 48 #[.string s, .string ⟨#[45]⟩] w fun e w' => e = .returned (.tuple #[.string (behindB s), .bool (minusB s)]) ∧ w = w' := by
  have ch := fun w => litecut_any s hs w
  have CH := Lib.hid ch
  clear ch
  go_enter Tryd.func48, Tryd.ntmps48
  go_wp2_with fail
  refine (CH.out _).mono ?_
  rintro e w1 ⟨rfl, rfl⟩
  go_wp2_with fail
  go_ret2
  exact ⟨rfl, rfl⟩
set_option maxHeartbeats 2000000 in
theorem trimPrefix_any (s : ByteArray) (hs : s.size ≤ 1099511627776) (w : World) :
    Calls Tryd.prog 35 #[.string s, .string ⟨#[45]⟩] w fun e w' => e = .returned (.string (behindB s)) ∧ w = w' := by
  have ch := fun w => litetrim_any s hs w
  have CH := Lib.hid ch
  clear ch
  go_enter Tryd.func35, Tryd.ntmps35
  go_wp2_with fail
  refine (CH.out _).mono ?_
  rintro e w1 ⟨rfl, rfl⟩
  go_wp2_with fail
  go_ret
  exact ⟨rfl, rfl⟩
end Go.Proofs.YtildgpahacaglaaDoor
