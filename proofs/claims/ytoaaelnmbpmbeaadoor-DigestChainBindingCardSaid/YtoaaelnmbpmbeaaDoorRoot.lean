/-
  The contract of digest.Root: the root of a list of strings.
-/
import Derived.Test.YtoaaelnmbpmbeaaDoorHash
import Derived.Deep.RegionWith
namespace Go.Proofs.YtoaaelnmbpmbeaaDoor
open Go Go.Proofs Go.RowKit Go.Lib

/-- The strings that a slice holds, from the offset o of block b on. -/
def StrsAt (W : World) (b o : Nat) (l : List ByteArray) : Prop := ∀ (i : Nat) (h : i < l.length), W.cell? ⟨b, o + i, none⟩ = some (.string l[i])
theorem StrsAt.below {n : Nat} {W W' : World} {b o : Nat} {l : List ByteArray} (h : StrsAt W b o l) (hb : Below n W W') (hn : b < n) : StrsAt W' b o l :=
  fun i hi => (hb.cell (p := ⟨b, o + i, none⟩) hn).trans (h i hi)
theorem StrsAt.take {W : World} {b o : Nat} {l : List ByteArray} (h : StrsAt W b o l) (k : Nat) : StrsAt W b o (l.take k) := by
  intro i hi
  have hi2 : i < l.length := by simp at hi; omega
  rw [h i hi2]; simp
theorem StrsAt.drop {W : World} {b o : Nat} {l : List ByteArray} (h : StrsAt W b o l) (k : Nat) : StrsAt W b (o + k) (l.drop k) := by
  intro i hi
  have hi2 : k + i < l.length := by simp at hi; omega
  have := h (k + i) hi2
  rw [show o + (k + i) = o + k + i by omega] at this
  rw [this]; simp
def Small (l : List ByteArray) : Prop := ∀ s ∈ l, s.size ≤ 1099511627776
theorem Small.take {l : List ByteArray} (h : Small l) (k : Nat) : Small (l.take k) := fun s hs => h s (List.mem_of_mem_take hs)
theorem Small.drop {l : List ByteArray} (h : Small l) (k : Nat) : Small (l.drop k) := fun s hs => h s (List.mem_of_mem_drop hs)

/-- A contract in a world that has grown. -/
theorem grown_call {P : Program} {f : FuncId} {args : Array Value} {v : Value} {n : Nat} {w W : World} (c : Calls P f args W fun e W' => e = .returned v ∧ Below W.heap.size W W') (hb : Below n w W) (hn : n ≤ W.heap.size) :
    Calls P f args W fun e W' => e = .returned v ∧ Below n w W' := c.mono fun _ _ h => ⟨h.1, hb.trans (h.2.mono hn)⟩

theorem root_nil (ad : Option Addr) (cap : Nat) (w : World) (hR : Ready w) :
    Calls Tryd.prog 27 #[.slice ad 0 cap] w fun e w' => e = .returned (.string (rootF [])) ∧ Below w.heap.size w w' := by
  have c := sum_any ByteArray.empty (by decide) w hR
  rw [← rootF_nil] at c
  have C := Lib.hid (show Calls Tryd.prog 13 #[.string { data := #[] }] w _ from c)
  clear c
  go_enter Tryd.func27, Tryd.ntmps27
  go_wp2_with fail
  refine C.out.mono ?_
  rintro e w' ⟨rfl, hb⟩
  go_wp2
  go_ret
  exact ⟨rfl, hb⟩

theorem strs_elem : Tryd.prog.underlying 26 = some (.slice (Tryd.prog.elem 26)) := by kernel_rfl
theorem strs_size (w : World) : (Go.sizeOf (Tryd.prog.elem 26)).run Tryd.prog w = .ok 1 w := by kernel_rfl
theorem slice_lo (b o n c k : Nat) (hk : k ≤ c) (w : World) :
    (Instr.slice 26 (.slice (some ⟨b, o, none⟩) n c) none (some (.int .i64 (k : Nat))) none).run Tryd.prog w = .ok (.slice (some ⟨b, o, none⟩) k c) w := by
  rw [run_slice_h w _ _ _ _ strs_elem .i64 _ (by omega) (by omega), strs_size]
  simp [Result.andThen, sliced, Addr.add]
theorem slice_hi (b o n c k : Nat) (hk : k ≤ n) (hc : k < c) (w : World) :
    (Instr.slice 26 (.slice (some ⟨b, o, none⟩) n c) (some (.int .i64 (k : Nat))) none none).run Tryd.prog w = .ok (.slice (some ⟨b, o + k, none⟩) (n - k) (c - k)) w := by
  have h2 : ¬ c = k := by omega
  rw [run_slice_l w _ _ _ _ strs_elem .i64 _ (by omega) (by omega), strs_size]
  simp [Result.andThen, sliced, Addr.add, h2]

set_option maxRecDepth 100000 in
set_option maxHeartbeats 2000000 in
theorem root_big : ∀ (N : Nat) (l : List ByteArray) (b o cap : Nat) (w : World), l.length ≤ N → 1 ≤ l.length → l.length ≤ cap → l.length ≤ 1099511627776 → b < w.heap.size → StrsAt w b o l → Small l → Ready w →
    Calls Tryd.prog 27 #[.slice (some ⟨b, o, none⟩) l.length cap] w fun e w' => e = .returned (.string (rootF l)) ∧ Below w.heap.size w w'
  | 0, l, _, _, _, _, hN, h1, _, _, _, _, _, _ => by omega
  | N + 1, l, b, o, cap, w, hN, h1, hc, hc2, hb, hS, hM, hR => by
    by_cases h2 : l.length = 1
    · obtain ⟨a, rfl⟩ := List.length_eq_one_iff.1 h2
      have hcell : w.cell? ⟨b, o, none⟩ = some (.string a) := hS 0 (by simp)
      have C := Lib.hid (leaf_any a (hM a (by simp)) w hR)
      have hr := Lib.hid (rootF_one a)
      clear h2 hN h1 hS hM hR
      go_enter Tryd.func27, Tryd.ntmps27
      go_wp2_with fail
      refine C.out.mono ?_
      rintro e w' ⟨rfl, hb⟩
      go_wp2
      go_ret
      exact ⟨ret_str hr.out.symm, hb⟩
    · have hk := splitN_lt (n := l.length) (by omega)
      have hp := splitN_pos l.length
      have csp := split_any l.length (by omega) (by omega)
      have hroot := rootF_big (l := l) (by omega)
      have c1 := fun W (h : Below w.heap.size w W) => grown_call (root_big N (l.take (splitN l.length)) b o cap W (by simp; omega) (by simp; omega) (by simp; omega) (by simp; omega) (Nat.lt_of_lt_of_le hb h.size) ((hS.below h hb).take _) (hM.take _) (hR.below h)) h h.size
      have c2 := fun W (h : Below w.heap.size w W) => grown_call (root_big N (l.drop (splitN l.length)) b (o + splitN l.length) (cap - splitN l.length) W (by simp; omega) (by simp; omega) (by simp; omega) (by simp; omega) (Nat.lt_of_lt_of_le hb h.size) ((hS.below h hb).drop _) (hM.drop _) (hR.below h)) h h.size
      rw [show (l.take (splitN l.length)).length = splitN l.length by simp; omega] at c1
      rw [show (l.drop (splitN l.length)).length = l.length - splitN l.length by simp] at c2
      have s1 := rootF_size (l.take (splitN l.length))
      have s2 := rootF_size (l.drop (splitN l.length))
      obtain ⟨r1, e1⟩ : ∃ r, rootF (l.take (splitN l.length)) = r := ⟨_, rfl⟩
      obtain ⟨r2, e2⟩ : ∃ r, rootF (l.drop (splitN l.length)) = r := ⟨_, rfl⟩
      rw [e1] at c1 s1 hroot
      rw [e2] at c2 s2 hroot
      have c3 := fun W (h : Below w.heap.size w W) => grown_call (node_any r1 r2 (by omega) (by omega) W (hR.below h)) h h.size
      rw [← hroot] at c3
      obtain ⟨k, ek⟩ : ∃ k, splitN l.length = k := ⟨_, rfl⟩
      rw [ek] at c1 c2 csp hk hp
      obtain ⟨n, en⟩ : ∃ n, l.length = n := ⟨_, rfl⟩
      rw [en] at c2 csp hk hc h1 h2 ⊢
      have hsl1 := fun w => slice_lo b o n cap k (by omega) w
      have hsl2 := fun w => slice_hi b o n cap k (by omega) (by omega) w
      have C1 := Lib.hid c1; have C2 := Lib.hid c2; have C3 := Lib.hid c3; have CS := Lib.hid csp
      have hz0 : ((n : Int) == 0) = false := by rw [beq_eq_false_iff_ne]; omega
      have hz1 : ((n : Int) == 1) = false := by rw [beq_eq_false_iff_ne]; omega
      clear c1 c2 c3 csp e1 e2 ek en hroot hS hM hR s1 s2 hN h2
      go_enter Tryd.func27, Tryd.ntmps27
      go_wp2_with fail
      refine (CS.out _).mono ?_
      rintro e w' ⟨rfl, rfl⟩
      go_wp2_with fail
      go_region_with (first | (go_at_call 17; (with_reducible refine (C3.out _ ?_).mono ?_); exact ⟨hb2.os, hb2.tape, hb2.output, hb2.size, hb2.block⟩; rintro e W3 ⟨rfl, hb3⟩) | (go_at_call 27; (with_reducible refine (C1.out _ ?_).mono ?_); exact ⟨rfl, rfl, rfl, Nat.le_refl _, fun _ _ => rfl⟩; rintro e W1 ⟨rfl, hb1⟩) | (go_at_call 27; (with_reducible refine (C2.out _ ?_).mono ?_); exact ⟨hb1.os, hb1.tape, hb1.output, hb1.size, hb1.block⟩; rintro e W2 ⟨rfl, hb2⟩))
      all_goals (go_wp2; go_ret; exact ⟨rfl, hb3.os, hb3.tape, hb3.output, hb3.size, hb3.block⟩)

theorem root_any (l : List ByteArray) (b o cap : Nat) (w : World) (hc : l.length ≤ cap) (hc2 : l.length ≤ 1099511627776) (hb : b < w.heap.size) (hS : StrsAt w b o l) (hM : Small l) (hR : Ready w) :
    Calls Tryd.prog 27 #[.slice (some ⟨b, o, none⟩) l.length cap] w fun e w' => e = .returned (.string (rootF l)) ∧ Below w.heap.size w w' := by
  by_cases h : l = []
  · subst h; exact root_nil _ cap w hR
  · exact root_big l.length l b o cap w (Nat.le_refl _) (by cases l; exact absurd rfl h; simp) hc hc2 hb hS hM hR
end Go.Proofs.YtoaaelnmbpmbeaaDoor
