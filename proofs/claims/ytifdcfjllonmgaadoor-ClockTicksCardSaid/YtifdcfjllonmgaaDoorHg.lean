/-
  Layer 8: the contracts of the reference's ValidClock and Begins.
-/
import Derived.Test.YtifdcfjllonmgaaDoorHf
namespace Go.Proofs.YtifdcfjllonmgaaDoor
open Go Go.Proofs Go.RowKit Go.Lib

theorem at_an8 (g o n c k : Nat) (hk : k < n) (w : World) : (Instr.indexAt 48 (.slice (some ⟨g, o, none⟩) n c) (.int .i64 (k : Int))).run Tryd.prog w = .ok (.pointer (some ⟨g, o + 2 * k, none⟩)) w := KA.at_ g o n c k hk w
theorem RL.an {W : World} {ad : Option Addr} {l : List An} (h : RL KA W ad l) (k : Nat) (hk : k < l.length) : ∃ b o, ad = some ⟨b, o, none⟩ ∧ b < W.heap.size ∧ ∀ W', Below W.heap.size W W' → W'.cell? ⟨b, o + 2 * k, none⟩ = some (.int .i64 l[k].a) ∧ W'.cell? ⟨b, o + 2 * k + 1, none⟩ = some (.int .i64 l[k].t) := by
  obtain ⟨b, o, h1, h2, h3⟩ := h.at_ k hk
  refine ⟨b, o, h1, h2, fun W' hb => ?_⟩
  have := h3 W' hb
  exact ⟨this 0 (by decide), this 1 (by decide)⟩
theorem cell_alloc_old8 (W : World) (o : Obj) (b i : Nat) (h : b < W.heap.size) : (W.alloc o).cell? ⟨b, i, none⟩ = W.cell? ⟨b, i, none⟩ := World.cell?_of_block (a := ⟨b, i, none⟩) (Below.heap_alloc W o b h)
set_option maxRecDepth 100000 in
set_option maxHeartbeats 4000000 in
theorem beginsR_any (v : Value) (c : Cl) (r : Int) (w : World) (hc : CkAt w v c) (hv : ckB c = true) (hr : -134217728 ≤ r) (hr2 : r ≤ 134217728) :
    Calls Tryd.prog 56 #[v, .int .i64 r] w fun e w' => e = .returned (.int .i64 (begN c.dr r c.an)) ∧ Below w.heap.size w w' := by
  obtain ⟨ad, cp, rfl, hI⟩ := hc
  obtain ⟨hall, ⟨hd0, hd1⟩, hlen, hne⟩ := ckB_of hv
  obtain ⟨dr, l⟩ := c
  dsimp only at *
  clear hv
  have HST := Lib.hid (fun k hk => begN_step dr r l k hk)
  have HAL := Lib.hid hall
  have HC := Lib.hid (fun k hk => hI.an k hk)
  clear hall hI hne
  go_enter Tryd.func56, Tryd.ntmps56
  go_wp2_with fail
  go_loopw [5, 6] (fun o i wr => ∃ k : Nat, k ≤ l.length ∧ i = .int .i64 k ∧ o = .int .i64 (begN dr r (l.take k)) ∧ Hid (Below w.heap.size w wr) ∧ Hid (wr.cell? ⟨w.heap.size, 0, none⟩ = some (.int .i64 dr) ∧ wr.cell? ⟨w.heap.size, 1, none⟩ = some (.slice ad l.length cp) ∧ w.heap.size < wr.heap.size)) (fun _ i _ => l.length - (RowKit.intOf i).toNat)
  case atStart => exact ⟨0, Nat.zero_le _, rfl, rfl, Lib.hid ((Below.refl _ _).alloc (Nat.le_refl _) _), Lib.hid ⟨by rw [cell_of_row _ w.heap.size 0 _ _ _ (heap_alloc_new w _)]; rfl, by rw [cell_of_row _ w.heap.size 1 _ _ _ (heap_alloc_new w _)]; rfl, by simp⟩⟩
  case round =>
    obtain ⟨k, hk, rfl, rfl, HB, HK⟩ := hrel
    by_cases hlt : k < l.length
    · have hki : (k : Int) < (l.length : Int) := by omega
      obtain ⟨b, o, rfl, _, e2⟩ := HC.out k hlt
      have hik := fun W => at_an8 b o l.length cp k hlt W
      obtain ⟨c0, c1⟩ := e2 wr HB.out
      obtain ⟨k0, k1, k2⟩ := HK.out
      have HA := HAL.out l[k] (List.getElem_mem hlt)
      have HS := HST.out k hlt
      have HLT := Lib.hid hlt
      generalize l[k] = x at *
      generalize begN dr r (l.take k) = bo at *
      have HSH := Lib.hid HS
      clear HS
      obtain ⟨⟨m1, m2⟩, m3, m4⟩ := begA_bd (r := r) hd0 hd1 HA hr hr2
      obtain ⟨⟨a1, a2⟩, a3, a4⟩ := anB_of HA
      have HN := Lib.hid (show begN dr r (l.take (k + 1)) = bo ∨ begN dr r (l.take (k + 1)) = begA dr r x by have := HSH.out; split at this <;> simp [this])
      clear e2 hlt HA
      by_cases hra : r < x.a
      · skip
        have HBA := Lib.hid (show begA dr r x = x.t + (r - x.a) * (1000000 + dr) by unfold begA; rw [if_pos hra])
        rcases Nat.eq_zero_or_pos k with hk0 | hk0
        · subst hk0
          have HF := Lib.hid (show begN dr r (l.take (0 + 1)) = x.t + (r - x.a) * (1000000 + dr) by have := HSH.out; rw [if_pos (.inl rfl)] at this; rw [this, HBA.out])
          simp only [Nat.mul_zero, Nat.add_zero] at c0 c1 hik
          go_wp2_with fail
          go_roundw
          case rel => exact ⟨0 + 1, HLT.out, by go_num, by rw [HF.out], Lib.hid (HB.out.alloc HB.out.size _), Lib.hid ⟨(cell_alloc_old8 wr _ _ _ k2).trans k0, (cell_alloc_old8 wr _ _ _ k2).trans k1, by simp; omega⟩⟩
          case measure => have h9 := HLT.out; simp [RowKit.intOf]; omega
        · have kz : ((k : Int) == 0) = false := by rw [beq_eq_false_iff_ne]; omega
          by_cases hlt : bo < x.t + (r - x.a) * (1000000 + dr)
          · have HF := Lib.hid (show begN dr r (l.take (k + 1)) = x.t + (r - x.a) * (1000000 + dr) by have := HSH.out; rw [HBA.out, if_pos (.inr hlt)] at this; exact this)
            go_wp2_with fail
            go_roundw
            case rel => exact ⟨k + 1, HLT.out, by go_num, by rw [HF.out], Lib.hid (HB.out.alloc HB.out.size _), Lib.hid ⟨(cell_alloc_old8 wr _ _ _ k2).trans k0, (cell_alloc_old8 wr _ _ _ k2).trans k1, by simp; omega⟩⟩
            case measure => have h9 := HLT.out; simp [RowKit.intOf]; omega
          · have HF := Lib.hid (show begN dr r (l.take (k + 1)) = bo by have := HSH.out; rw [HBA.out, if_neg (by omega)] at this; exact this)
            go_wp2_with fail
            go_roundw
            case rel => exact ⟨k + 1, HLT.out, by go_num, by rw [HF.out], Lib.hid (HB.out.alloc HB.out.size _), Lib.hid ⟨(cell_alloc_old8 wr _ _ _ k2).trans k0, (cell_alloc_old8 wr _ _ _ k2).trans k1, by simp; omega⟩⟩
            case measure => have h9 := HLT.out; simp [RowKit.intOf]; omega
      · skip
        have HBA := Lib.hid (show begA dr r x = x.t + (r - x.a) * (1000000 - dr) by unfold begA; rw [if_neg hra])
        rcases Nat.eq_zero_or_pos k with hk0 | hk0
        · subst hk0
          have HF := Lib.hid (show begN dr r (l.take (0 + 1)) = x.t + (r - x.a) * (1000000 - dr) by have := HSH.out; rw [if_pos (.inl rfl)] at this; rw [this, HBA.out])
          simp only [Nat.mul_zero, Nat.add_zero] at c0 c1 hik
          go_wp2_with fail
          go_roundw
          case rel => exact ⟨0 + 1, HLT.out, by go_num, by rw [HF.out], Lib.hid (HB.out.alloc HB.out.size _), Lib.hid ⟨(cell_alloc_old8 wr _ _ _ k2).trans k0, (cell_alloc_old8 wr _ _ _ k2).trans k1, by simp; omega⟩⟩
          case measure => have h9 := HLT.out; simp [RowKit.intOf]; omega
        · have kz : ((k : Int) == 0) = false := by rw [beq_eq_false_iff_ne]; omega
          by_cases hlt : bo < x.t + (r - x.a) * (1000000 - dr)
          · have HF := Lib.hid (show begN dr r (l.take (k + 1)) = x.t + (r - x.a) * (1000000 - dr) by have := HSH.out; rw [HBA.out, if_pos (.inr hlt)] at this; exact this)
            go_wp2_with fail
            go_roundw
            case rel => exact ⟨k + 1, HLT.out, by go_num, by rw [HF.out], Lib.hid (HB.out.alloc HB.out.size _), Lib.hid ⟨(cell_alloc_old8 wr _ _ _ k2).trans k0, (cell_alloc_old8 wr _ _ _ k2).trans k1, by simp; omega⟩⟩
            case measure => have h9 := HLT.out; simp [RowKit.intOf]; omega
          · have HF := Lib.hid (show begN dr r (l.take (k + 1)) = bo by have := HSH.out; rw [HBA.out, if_neg (by omega)] at this; exact this)
            go_wp2_with fail
            go_roundw
            case rel => exact ⟨k + 1, HLT.out, by go_num, by rw [HF.out], Lib.hid (HB.out.alloc HB.out.size _), Lib.hid ⟨(cell_alloc_old8 wr _ _ _ k2).trans k0, (cell_alloc_old8 wr _ _ _ k2).trans k1, by simp; omega⟩⟩
            case measure => have h9 := HLT.out; simp [RowKit.intOf]; omega
    · obtain rfl : k = l.length := by omega
      have HF := Lib.hid (show begN dr r (l.take l.length) = begN dr r l by rw [List.take_length])
      have hki : ¬ (l.length : Int) < (l.length : Int) := by omega
      obtain ⟨k0, k1, k2⟩ := HK.out
      go_wp2
      go_ret
      exact ⟨rfl, HB.out⟩
set_option maxRecDepth 100000 in
set_option maxHeartbeats 4000000 in
theorem validClockR_any (v : Value) (c : Cl) (w : World) (hc : CkAt w v c) (hl : c.an.length ≤ maxLen) :
    Calls Tryd.prog 30 #[v] w fun e w' => e = .returned (.bool (ckB c)) ∧ Below w.heap.size w w' := by
  obtain ⟨ad, cp, rfl, hI⟩ := hc
  obtain ⟨dr, l⟩ := c
  unfold maxLen at hl
  dsimp only at *
  obtain ⟨B, hB⟩ : ∃ B, ckB ⟨dr, l⟩ = B := ⟨_, rfl⟩
  rw [hB]
  have HNO := Lib.hid (fun (a : An) (h : a ∈ l) (h2 : anB a = false) => show B = false by
    rw [← hB]; unfold ckB
    have : l.all anB = false := List.all_eq_false.2 ⟨a, h, by simp [h2]⟩
    rw [this]; rfl)
  have HYES := Lib.hid (fun (h : ∀ a ∈ l, anB a = true) => show B = (inB dr 0 1000 && inB (l.length : Int) 1 24) by
    rw [← hB]; unfold ckB
    have : l.all anB = true := List.all_eq_true.2 h
    rw [this]; rfl)
  have HC := Lib.hid (fun k hk => hI.an k hk)
  clear hB hI
  go_enter Tryd.func30, Tryd.ntmps30
  go_wp2_with fail
  go_loop [3] (fun i => ∃ k : Nat, k ≤ l.length ∧ i = .int .i64 k ∧ Hid (∀ j (hj : j < l.length), j < k → anB l[j] = true)) (fun i => l.length - (RowKit.intOf i).toNat)
  case atStart => exact ⟨0, Nat.zero_le _, rfl, Lib.hid (fun j _ h => absurd h (Nat.not_lt_zero _))⟩
  case round =>
    obtain ⟨k, hk, rfl, HK⟩ := hrel
    by_cases hlt : k < l.length
    · have hki : (k : Int) < (l.length : Int) := by omega
      obtain ⟨b, o, rfl, _, e2⟩ := HC.out k hlt
      have hik := fun W => at_an8 b o l.length cp k hlt W
      obtain ⟨c0, c1⟩ := e2 _ ((Below.refl _ w).alloc (Nat.le_refl _) (.cells #[.int .i64 dr, .slice (some ⟨b, o, none⟩) l.length cp] 50))
      have HLT := Lib.hid hlt
      have HX := Lib.hid (fun h : anB l[k] = false => HNO.out l[k] (List.getElem_mem hlt) h)
      have HY := Lib.hid (show anB l[k] = true → ∀ j (hj : j < l.length), j < k + 1 → anB l[j] = true from fun h j hj hjk => by
        rcases Nat.lt_or_ge j k with h9 | h9
        · exact HK.out j hj h9
        · have : j = k := by omega
          subst this
          exact h)
      generalize l[k] = x at *
      clear e2 hlt
      cases h1 : inB x.a 0 1000001 with
      | false =>
        have HZ := Lib.hid (HX.out (by unfold anB; rw [h1]; rfl))
        go_wp2_with (go_at_call 42; ((with_reducible refine (in_any _ _ _ _).mono ?_); rintro e w' ⟨rfl, rfl⟩))
        go_ret
        exact ⟨by rw [HZ.out]; rfl, (Below.refl _ _).alloc (Nat.le_refl _) _⟩
      | true =>
        cases h2 : inB x.t (-17592186044416) 17592186044416 with
        | false =>
          have HZ := Lib.hid (HX.out (by unfold anB; rw [h1, h2]; rfl))
          go_wp2_with (go_at_call 42; ((with_reducible refine (in_any _ _ _ _).mono ?_); rintro e w' ⟨rfl, rfl⟩))
          go_ret
          exact ⟨by rw [HZ.out]; rfl, (Below.refl _ _).alloc (Nat.le_refl _) _⟩
        | true =>
          have HZ := Lib.hid (HY.out (by unfold anB; rw [h1, h2]; rfl))
          go_wp2_with (go_at_call 42; ((with_reducible refine (in_any _ _ _ _).mono ?_); rintro e w' ⟨rfl, rfl⟩))
          go_round
          case rel => exact ⟨k + 1, HLT.out, by go_num, HZ⟩
          case measure => have h9 := HLT.out; simp [RowKit.intOf]; omega
    · obtain rfl : k = l.length := by omega
      have HF := Lib.hid (HYES.out (fun x hx => by obtain ⟨i, h1, rfl⟩ := List.getElem_of_mem hx; exact HK.out i h1 h1))
      have hki : ¬ (l.length : Int) < (l.length : Int) := by omega
      cases h1 : inB dr 0 1000 with
      | false =>
        go_wp2_with (go_at_call 42; ((with_reducible refine (in_any _ _ _ _).mono ?_); rintro e w' ⟨rfl, rfl⟩))
        go_ret
        exact ⟨by rw [HF.out, h1]; rfl, (Below.refl _ _).alloc (Nat.le_refl _) _⟩
      | true =>
        cases h2 : inB (l.length : Int) 1 24 with
        | false =>
          go_wp2_with (go_at_call 42; ((with_reducible refine (in_any _ _ _ _).mono ?_); rintro e w' ⟨rfl, rfl⟩))
          go_ret
          exact ⟨by rw [HF.out, h1, h2]; rfl, (Below.refl _ _).alloc (Nat.le_refl _) _⟩
        | true =>
          go_wp2_with (go_at_call 42; ((with_reducible refine (in_any _ _ _ _).mono ?_); rintro e w' ⟨rfl, rfl⟩))
          go_ret
          exact ⟨by rw [HF.out, h1, h2]; rfl, (Below.refl _ _).alloc (Nat.le_refl _) _⟩
end Go.Proofs.YtifdcfjllonmgaaDoor
