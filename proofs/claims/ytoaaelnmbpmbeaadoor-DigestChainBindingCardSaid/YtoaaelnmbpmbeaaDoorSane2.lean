/-
  The contract of the statements' helper sane: the walk.
-/
import Derived.Test.YtoaaelnmbpmbeaaDoorSane
namespace Go.Proofs.YtoaaelnmbpmbeaaDoor
open Go Go.Proofs Go.RowKit Go.Lib

theorem sum_e (W : World) (hR : Ready W) : Calls Tryd.prog 13 #[.string { data := #[] }] W fun e w' => e = .returned (.string (sha ⟨#[]⟩)) ∧ Below W.heap.size W w' := sum_any ⟨#[]⟩ (by decide) W hR
theorem sum_abc (W : World) (hR : Ready W) : Calls Tryd.prog 13 #[.string { data := #[97, 98, 99] }] W fun e w' => e = .returned (.string (sha ⟨#[97, 98, 99]⟩)) ∧ Below W.heap.size W w' := sum_any ⟨#[97, 98, 99]⟩ (by decide) W hR
theorem hex_sha (s : ByteArray) (r : ByteArray) (h : hexTo (sha s) 32 = r) (W : World) : Calls Tryd.prog 39 #[.string (sha s)] W fun e w' => e = .returned (.string r) ∧ Below W.heap.size W w' := by
  have c := hex_any (sha s) (by rw [sha_size]; decide) W
  rw [sha_size, h] at c
  exact c
theorem s_proof (b : Nat) (W : World) (hH : Holds W (some ⟨b, 0, none⟩) 3 L3) (hR : Ready W) : Calls Tryd.prog 22 #[.slice (some ⟨b, 0, none⟩) 3 3, .int .i64 2] W (ErrPost W (proofF L3 2)) :=
  proof_ok L3 2 _ 3 W (by decide) (by decide) hH L3_small hR
theorem s_bad (b : Nat) (W : World) : Calls Tryd.prog 22 #[.slice (some ⟨b, 0, none⟩) 3 3, .int .i64 3] W fun e w' => e = .returned (.tuple #[.slice none 0 0, .int .i64 2]) ∧ W = w' :=
  proof_bad _ 3 3 3 (by decide) W
theorem s_ext (b : Nat) (W : World) (hH : Holds W (some ⟨b, 0, none⟩) 3 L3) (hR : Ready W) : Calls Tryd.prog 24 #[.slice (some ⟨b, 0, none⟩) 3 3, .int .i64 1] W (ErrPost W (partF L3 1 true)) :=
  ext_ok L3 1 _ 3 W (by decide) (by decide) (by decide) hH L3_small hR
theorem holds_take {W : World} {b cap : Nat} {l : List ByteArray} (h : Holds W (some ⟨b, 0, none⟩) cap l) (k : Nat) : Holds W (some ⟨b, 0, none⟩) cap (l.take k) := by
  obtain ⟨h1, h2, h3⟩ := h
  refine ⟨by simp; omega, by simp; omega, ?_⟩
  rcases h3 with rfl | ⟨b', o, he, hlt, hs⟩
  · exact .inl (by simp)
  · exact .inr ⟨b', o, he, hlt, hs.take k⟩
theorem root_holds {W : World} {ad : Option Addr} {cap : Nat} {l : List ByteArray} (h : Holds W ad cap l) (hM : Small l) (hR : Ready W) :
    Calls Tryd.prog 27 #[.slice ad l.length cap] W fun e w' => e = .returned (.string (rootF l)) ∧ Below W.heap.size W w' := by
  by_cases h0 : l = []
  · subst h0; exact root_nil ad cap W hR
  · obtain ⟨b, o, rfl, hlt, hs⟩ := h.at (by cases l; exact absurd rfl h0; simp)
    exact root_any l b o cap W h.1 h.2.1 hlt hs hM hR
theorem s_root (b : Nat) (W : World) (hH : Holds W (some ⟨b, 0, none⟩) 3 L3) (hR : Ready W) : Calls Tryd.prog 27 #[.slice (some ⟨b, 0, none⟩) 3 3] W fun e w' => e = .returned (.string (rootF L3)) ∧ Below W.heap.size W w' :=
  root_holds hH L3_small hR
theorem s_root1 (b : Nat) (W : World) (hH : Holds W (some ⟨b, 0, none⟩) 3 L3) (hR : Ready W) : Calls Tryd.prog 27 #[.slice (some ⟨b, 0, none⟩) 1 3] W fun e w' => e = .returned (.string (rootF [sA])) ∧ Below W.heap.size W w' :=
  root_holds (l := [sA]) (holds_take hH 1) (L3_small.take 1) hR
theorem s_root2 (b : Nat) (W : World) (hH : Holds W (some ⟨b, 0, none⟩) 3 L3) (hR : Ready W) : Calls Tryd.prog 27 #[.slice (some ⟨b, 0, none⟩) 2 3] W fun e w' => e = .returned (.string (rootF [sA, sB])) ∧ Below W.heap.size W w' :=
  root_holds (l := [sA, sB]) (holds_take hH 2) (L3_small.take 2) hR
theorem s_ver (ad : Option Addr) (cap : Nat) (W : World) (h : Holds W ad cap (proofF L3 2)) (hR : Ready W) : Calls Tryd.prog 29 #[.string (rootF L3), .int .i64 3, .int .i64 2, .string { data := #[99] }, .slice ad 1 cap] W fun e w' => e = .returned (.bool true) ∧ Below W.heap.size W w' := by
  have c := ver_any (rootF L3) 3 2 sC (proofF L3 2) ad cap W (by decide) (by decide) h (small_dig (proofF_dig 3 L3 2 (by decide))) hR
  rw [ver_yes, show (proofF L3 2).length = 1 by rw [proof3]; rfl] at c
  exact c
theorem s_ver2 (ad : Option Addr) (cap : Nat) (W : World) (h : Holds W ad cap (proofF L3 2)) (hR : Ready W) : Calls Tryd.prog 29 #[.string (rootF L3), .int .i64 3, .int .i64 2, .string { data := #[100] }, .slice ad 1 cap] W fun e w' => e = .returned (.bool false) ∧ Below W.heap.size W w' := by
  have c := ver_any (rootF L3) 3 2 sD (proofF L3 2) ad cap W (by decide) (by decide) h (small_dig (proofF_dig 3 L3 2 (by decide))) hR
  rw [ver_no, show (proofF L3 2).length = 1 by rw [proof3]; rfl] at c
  exact c
theorem s_verx (ad : Option Addr) (cap : Nat) (W : World) (h : Holds W ad cap (partF L3 1 true)) (hR : Ready W) : Calls Tryd.prog 31 #[.string (rootF [sA]), .int .i64 1, .string (rootF L3), .int .i64 3, .slice ad 2 cap] W fun e w' => e = .returned (.bool true) ∧ Below W.heap.size W w' := by
  have c := verx_any (rootF [sA]) 1 (rootF L3) 3 (partF L3 1 true) ad cap W (by decide) (by rw [rootF_size]; decide) (by rw [rootF_size]; decide) h (small_dig (partF_dig 3 L3 1 true (by decide))) hR
  rw [ext_yes, show (partF L3 1 true).length = 2 by rw [part3]; rfl] at c
  exact c
theorem s_verx2 (ad : Option Addr) (cap : Nat) (W : World) (h : Holds W ad cap (partF L3 1 true)) (hR : Ready W) : Calls Tryd.prog 31 #[.string (rootF [sA, sB]), .int .i64 1, .string (rootF L3), .int .i64 3, .slice ad 2 cap] W fun e w' => e = .returned (.bool false) ∧ Below W.heap.size W w' := by
  have c := verx_any (rootF [sA, sB]) 1 (rootF L3) 3 (partF L3 1 true) ad cap W (by decide) (by rw [rootF_size]; decide) (by rw [rootF_size]; decide) h (small_dig (partF_dig 3 L3 1 true (by decide))) hR
  rw [ext_no, show (partF L3 1 true).length = 2 by rw [part3]; rfl] at c
  exact c

set_option maxRecDepth 100000 in
set_option maxHeartbeats 4000000 in
theorem sane_any (w : World) (hR : Ready w) : Calls Tryd.prog 12 #[] w fun e w' => e = .returned (.bool true) ∧ Below w.heap.size w w' := by
  have hb0 : Below w.heap.size w (w.alloc (.cells #[.string { data := #[97] }, .string { data := #[98] }, .string { data := #[99] }] 9)) := (Below.refl _ _).alloc (Nat.le_refl _) _
  have hH0 : Holds (w.alloc (.cells #[.string { data := #[97] }, .string { data := #[98] }, .string { data := #[99] }] 9)) (some ⟨w.heap.size, 0, none⟩) 3 L3 := holds_new w L3 9 (by decide)
  have hs1 : w.heap.size < (w.alloc (.cells #[.string { data := #[97] }, .string { data := #[98] }, .string { data := #[99] }] 9)).heap.size := by simp
  have hR0 := hR.below hb0
  have e1 := hex_e
  have e2 := hex_abc
  have x1 := sha_size ⟨#[]⟩
  have HH := Lib.hid hH0; have HR0 := Lib.hid hR0; have HB0 := Lib.hid hb0; have HE1 := Lib.hid e1; have HE2 := Lib.hid e2
  clear hH0 hR0 hb0 hs1 e1 e2 x1 hR
  go_enter Tryd.func12, Tryd.ntmps12
  go_wp2_with fail
  refine (s_proof _ _ HH.out HR0.out).mono ?_
  rintro e W1 ⟨v1, rfl, ho1, hb1⟩
  obtain ⟨ad1, cap1, rfl, hh1⟩ := own_holds 1 ho1 (by rw [proof3]; rfl) (by decide)
  have HH1 := HH.out.below hb1 (Nat.le_refl _)
  have HR1 := HR0.out.below hb1
  have HB1 := HB0.out.trans (hb1.mono HB0.out.size)
  have Q1 := Lib.hid HH1; have Q2 := Lib.hid HR1; have Q3 := Lib.hid HB1; have Q4 := Lib.hid hh1
  clear HH1 HR1 HB1 hh1 ho1 hb1
  go_wp2_with fail
  refine (s_ext _ _ Q1.out Q2.out).mono ?_
  rintro e W2 ⟨v2, rfl, ho2, hb2⟩
  obtain ⟨ad2, cap2, rfl, hh2⟩ := own_holds 2 ho2 (by rw [part3]; rfl) (by decide)
  have Z1 := Lib.hid (Q1.out.below hb2 (Nat.le_refl _)); have Z2 := Lib.hid (Q2.out.below hb2); have Z3 := Lib.hid (Q3.out.trans (hb2.mono Q3.out.size)); have Z4 := Lib.hid (Q4.out.below hb2 (Nat.le_refl _)); have Z5 := Lib.hid hh2
  clear hh2 ho2 hb2 Q1 Q2 Q3 Q4
  go_wp2_with fail
  refine (s_bad _ _).mono ?_
  rintro e W3 ⟨rfl, rfl⟩
  go_wp2_with fail
  refine (s_root _ _ Z1.out Z2.out).mono ?_
  rintro e W4 ⟨rfl, hb⟩
  have Q1 := Lib.hid (Z1.out.below hb (Nat.le_refl _)); have Q2 := Lib.hid (Z2.out.below hb); have Q3 := Lib.hid (Z3.out.trans (hb.mono Z3.out.size)); have Q4 := Lib.hid (Z4.out.below hb (Nat.le_refl _)); have Q5 := Lib.hid (Z5.out.below hb (Nat.le_refl _))
  clear hb Z1 Z2 Z3 Z4 Z5
  go_wp2_with fail
  refine (sum_e _ Q2.out).mono ?_
  rintro e W5 ⟨rfl, hb⟩
  have Z1 := Lib.hid (Q1.out.below hb (Nat.le_refl _)); have Z2 := Lib.hid (Q2.out.below hb); have Z3 := Lib.hid (Q3.out.trans (hb.mono Q3.out.size)); have Z4 := Lib.hid (Q4.out.below hb (Nat.le_refl _)); have Z5 := Lib.hid (Q5.out.below hb (Nat.le_refl _))
  clear hb Q1 Q2 Q3 Q4 Q5
  go_wp2_with fail
  refine (hex_sha _ hexE HE1.out _).mono ?_
  rintro e W6 ⟨rfl, hb⟩
  have Q1 := Lib.hid (Z1.out.below hb (Nat.le_refl _)); have Q2 := Lib.hid (Z2.out.below hb); have Q3 := Lib.hid (Z3.out.trans (hb.mono Z3.out.size)); have Q4 := Lib.hid (Z4.out.below hb (Nat.le_refl _)); have Q5 := Lib.hid (Z5.out.below hb (Nat.le_refl _))
  clear hb Z1 Z2 Z3 Z4 Z5
  unfold hexE
  go_wp2_with fail
  refine (sum_abc _ Q2.out).mono ?_
  rintro e W7 ⟨rfl, hb⟩
  have Z1 := Lib.hid (Q1.out.below hb (Nat.le_refl _)); have Z2 := Lib.hid (Q2.out.below hb); have Z3 := Lib.hid (Q3.out.trans (hb.mono Q3.out.size)); have Z4 := Lib.hid (Q4.out.below hb (Nat.le_refl _)); have Z5 := Lib.hid (Q5.out.below hb (Nat.le_refl _))
  clear hb Q1 Q2 Q3 Q4 Q5
  go_wp2_with fail
  refine (hex_sha _ hexABC HE2.out _).mono ?_
  rintro e W8 ⟨rfl, hb⟩
  have Q1 := Lib.hid (Z1.out.below hb (Nat.le_refl _)); have Q2 := Lib.hid (Z2.out.below hb); have Q3 := Lib.hid (Z3.out.trans (hb.mono Z3.out.size)); have Q4 := Lib.hid (Z4.out.below hb (Nat.le_refl _)); have Q5 := Lib.hid (Z5.out.below hb (Nat.le_refl _))
  clear hb Z1 Z2 Z3 Z4 Z5
  unfold hexABC
  go_wp2_with fail
  refine (s_ver _ _ _ Q4.out Q2.out).mono ?_
  rintro e W9 ⟨rfl, hb⟩
  have Z1 := Lib.hid (Q1.out.below hb (Nat.le_refl _)); have Z2 := Lib.hid (Q2.out.below hb); have Z3 := Lib.hid (Q3.out.trans (hb.mono Q3.out.size)); have Z4 := Lib.hid (Q4.out.below hb (Nat.le_refl _)); have Z5 := Lib.hid (Q5.out.below hb (Nat.le_refl _))
  clear hb Q1 Q2 Q3 Q4 Q5
  go_wp2_with fail
  refine (s_ver2 _ _ _ Z4.out Z2.out).mono ?_
  rintro e W10 ⟨rfl, hb⟩
  have Q1 := Lib.hid (Z1.out.below hb (Nat.le_refl _)); have Q2 := Lib.hid (Z2.out.below hb); have Q3 := Lib.hid (Z3.out.trans (hb.mono Z3.out.size)); have Q4 := Lib.hid (Z4.out.below hb (Nat.le_refl _)); have Q5 := Lib.hid (Z5.out.below hb (Nat.le_refl _))
  clear hb Z1 Z2 Z3 Z4 Z5
  go_wp2_with fail
  refine (s_root1 _ _ Q1.out Q2.out).mono ?_
  rintro e W11 ⟨rfl, hb⟩
  have Z1 := Lib.hid (Q1.out.below hb (Nat.le_refl _)); have Z2 := Lib.hid (Q2.out.below hb); have Z3 := Lib.hid (Q3.out.trans (hb.mono Q3.out.size)); have Z4 := Lib.hid (Q4.out.below hb (Nat.le_refl _)); have Z5 := Lib.hid (Q5.out.below hb (Nat.le_refl _))
  clear hb Q1 Q2 Q3 Q4 Q5
  go_wp2_with fail
  refine (s_verx _ _ _ Z5.out Z2.out).mono ?_
  rintro e W12 ⟨rfl, hb⟩
  have Q1 := Lib.hid (Z1.out.below hb (Nat.le_refl _)); have Q2 := Lib.hid (Z2.out.below hb); have Q3 := Lib.hid (Z3.out.trans (hb.mono Z3.out.size)); have Q4 := Lib.hid (Z4.out.below hb (Nat.le_refl _)); have Q5 := Lib.hid (Z5.out.below hb (Nat.le_refl _))
  clear hb Z1 Z2 Z3 Z4 Z5
  go_wp2_with fail
  refine (s_root2 _ _ Q1.out Q2.out).mono ?_
  rintro e W13 ⟨rfl, hb⟩
  have Z1 := Lib.hid (Q1.out.below hb (Nat.le_refl _)); have Z2 := Lib.hid (Q2.out.below hb); have Z3 := Lib.hid (Q3.out.trans (hb.mono Q3.out.size)); have Z4 := Lib.hid (Q4.out.below hb (Nat.le_refl _)); have Z5 := Lib.hid (Q5.out.below hb (Nat.le_refl _))
  clear hb Q1 Q2 Q3 Q4 Q5
  go_wp2_with fail
  refine (s_verx2 _ _ _ Z5.out Z2.out).mono ?_
  rintro e W14 ⟨rfl, hb⟩
  have Q1 := Lib.hid (Z1.out.below hb (Nat.le_refl _)); have Q2 := Lib.hid (Z2.out.below hb); have Q3 := Lib.hid (Z3.out.trans (hb.mono Z3.out.size)); have Q4 := Lib.hid (Z4.out.below hb (Nat.le_refl _)); have Q5 := Lib.hid (Z5.out.below hb (Nat.le_refl _))
  clear hb Z1 Z2 Z3 Z4 Z5
  go_wp2
  go_ret
  exact ⟨rfl, Q3.out⟩
end Go.Proofs.YtoaaelnmbpmbeaaDoor
