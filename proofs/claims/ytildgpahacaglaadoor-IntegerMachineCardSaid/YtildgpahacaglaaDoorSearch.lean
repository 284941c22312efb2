/-
  The contracts of sort.Search over package integer's closure, and of greatest.
-/
import Derived.Test.YtildgpahacaglaaDoorFoldI
namespace Go.Proofs.YtildgpahacaglaaDoor
open Go Go.Proofs Go.RowKit Go.Lib

/-- What Search finds. -/
def Found (q : Nat → Bool) (n r : Nat) : Prop := r ≤ n ∧ (r = 0 ∨ q (r - 1) = false) ∧ (r = n ∨ q r = true)

set_option maxRecDepth 100000 in
set_option maxHeartbeats 4000000 in
theorem search_any (n : Nat) (hn : n ≤ 1099511627776) (q : Nat → Bool) (Bf Bl : Nat) (w : World)
    (hc : ∀ W i, i < n → Below w.heap.size w W → Calls Tryd.prog 76 #[.int .i64 ((i : Nat) : Int), .pointer (some ⟨Bf, 0, none⟩), .pointer (some ⟨Bl, 0, none⟩)] W fun e W' => e = .returned (.bool (q i)) ∧ Below W.heap.size W W') :
    Calls Tryd.prog 75 #[.int .i64 ((n : Nat) : Int), .func (.func 76) #[] #[.pointer (some ⟨Bf, 0, none⟩), .pointer (some ⟨Bl, 0, none⟩)]] w fun e w' => (∃ r : Nat, Found q n r ∧ e = .returned (.int .i64 ((r : Nat) : Int))) ∧ Below w.heap.size w w' := by
  have HC := Lib.hid hc
  clear hc
  go_enter Tryd.func75, Tryd.ntmps75
  go_wp2_with fail
  go_loopw [5, 6] (fun vi vj wr => ∃ (i j : Nat), i ≤ j ∧ j ≤ n ∧ vi = .int .i64 i ∧ vj = .int .i64 j ∧ Hid (i = 0 ∨ q (i - 1) = false) ∧ Hid (j = n ∨ q j = true) ∧ Hid (Below w.heap.size w wr)) (fun vi vj _ => (RowKit.intOf vj - RowKit.intOf vi).toNat)
  case atStart => exact ⟨0, n, Nat.zero_le _, Nat.le_refl _, rfl, rfl, .inl rfl, .inl rfl, Below.refl _ _⟩
  case round =>
    obtain ⟨i, j, hij, hjn, rfl, rfl, hi, hj, hbr⟩ := hrel
    by_cases hlt : i < j
    · have hlt2 : (i : Int) < (j : Int) := by omega
      obtain ⟨h, hh⟩ : ∃ h, (i + j) / 2 = h := ⟨_, rfl⟩
      have hhn : h < n := by omega
      have hih : i ≤ h ∧ h < j := by omega
      have hshr : ((i : Int) + (j : Int)) / 2 = (h : Int) := by omega
      have cs := HC.out wr h hhn hbr.out
      obtain ⟨b, hb⟩ : ∃ b, q h = b := ⟨_, rfl⟩
      rw [hb] at cs
      have CS := Lib.hid cs; have HBQ := Lib.hid hb
      clear cs hb hh
      go_wp2_with fail
      refine CS.out.mono ?_
      rintro e w2 ⟨rfl, b2⟩
      have HB2 := Lib.hid (hbr.out.trans (b2.mono hbr.out.size))
      clear b2 hbr CS
      cases b with
      | true =>
        go_wp2_with fail
        go_roundw
        case rel => exact ⟨i, h, hih.1, by omega, rfl, rfl, hi.out, .inr HBQ.out, HB2.out⟩
        case measure => simp [RowKit.intOf]; omega
      | false =>
        go_wp2_with fail
        go_roundw
        case rel => exact ⟨h + 1, j, by omega, by omega, by go_num, rfl, .inr (by simpa using HBQ.out), hj.out, HB2.out⟩
        case measure => simp [RowKit.intOf]; omega
    · have hlt2 : ¬ (i : Int) < (j : Int) := by omega
      obtain rfl : i = j := by omega
      have HP := Lib.hid (show Found q n i from ⟨hjn, hi.out, hj.out⟩)
      clear hi hj hij
      go_wp2_with fail
      go_ret
      exact ⟨⟨i, HP.out, rfl⟩, hbr.out⟩

/-- What greatest finds. -/
def Greatest (p : Nat → Bool) (low high r : Nat) : Prop := low ≤ r ∧ r ≤ high ∧ (r = low ∨ p r = true) ∧ (r = high ∨ p (r + 1) = false)

set_option maxRecDepth 100000 in
set_option maxHeartbeats 4000000 in
theorem greatest_any (low high : Nat) (hlh : low ≤ high) (hh : high ≤ 1000000) (p : Nat → Bool) (gs : Nat) (lb : Array Value) (w : World)
    (hc : ∀ W i Bf Bl, i < high - low → Below w.heap.size w W → w.heap.size ≤ Bf → w.heap.size ≤ Bl → Bf < W.heap.size → Bl < W.heap.size → W.cell? ⟨Bf, 0, none⟩ = some (.func (.func gs) #[] lb) → W.cell? ⟨Bl, 0, none⟩ = some (.int .i64 ((low : Nat) : Int)) →
      Calls Tryd.prog 76 #[.int .i64 ((i : Nat) : Int), .pointer (some ⟨Bf, 0, none⟩), .pointer (some ⟨Bl, 0, none⟩)] W fun e W' => e = .returned (.bool (!p (low + i + 1))) ∧ Below W.heap.size W W') :
    Calls Tryd.prog 57 #[.int .i64 ((low : Nat) : Int), .int .i64 ((high : Nat) : Int), .func (.func gs) #[] lb] w fun e w' => (∃ r : Nat, Greatest p low high r ∧ e = .returned (.int .i64 ((r : Nat) : Int))) ∧ Below w.heap.size w w' := by
  obtain ⟨w1, hw1⟩ : ∃ w1, (w.alloc (.cells #[.int .i64 ((low : Nat) : Int)] 3)).alloc (.cells #[.func (.func gs) #[] lb] 75) = w1 := ⟨_, rfl⟩
  have hbel : Below w.heap.size w w1 := by rw [← hw1]; exact ((Below.refl _ _).alloc (Nat.le_refl _) _).alloc (by simp) _
  have hbl : Boxed w1 w.heap.size 3 (.int .i64 ((low : Nat) : Int)) := by rw [← hw1]; exact (Boxed.new w _ _).alloc _
  have hbf : Boxed w1 (w.heap.size + 1) 75 (.func (.func gs) #[] lb) := by
    rw [← hw1]
    have := Boxed.new (w.alloc (.cells #[.int .i64 ((low : Nat) : Int)] 3)) 75 (.func (.func gs) #[] lb)
    rw [World.size_alloc] at this
    exact this
  have cs := fun W (b : Below w1.heap.size w1 W) => search_any (high - low) (by omega) (fun i => !p (low + i + 1)) (w.heap.size + 1) w.heap.size W (fun W' i hi hb' => by
    have b2 := b.trans (hb'.mono b.size)
    have x1 : Boxed W' w.heap.size 3 (.int .i64 ((low : Nat) : Int)) := (b2.block _ hbl.lt).trans hbl
    have x2 : Boxed W' (w.heap.size + 1) 75 (.func (.func gs) #[] lb) := (b2.block _ hbf.lt).trans hbf
    exact hc W' i _ _ hi (hbel.trans (b2.mono hbel.size)) (by omega) (Nat.le_refl _) x2.lt x1.lt x2.cell x1.cell)
  have hdi : ((high - low : Nat) : Int) = (high : Int) - (low : Int) := by omega
  rw [hdi] at cs
  have hkeep : ∀ W, Below w1.heap.size w1 W → W.cell? ⟨w.heap.size, 0, none⟩ = some (.int .i64 ((low : Nat) : Int)) := fun W b => (b.cell (p := ⟨w.heap.size, 0, none⟩) hbl.lt).trans hbl.cell
  have CS := Lib.hid cs; have HB := Lib.hid hbel; have HW := Lib.hid hw1; have HK := Lib.hid hkeep
  have hw3 : IntKind.i64.wrap ((high : Int) - (low : Int)) = (high : Int) - (low : Int) := IntWalk.i64_in _ (by omega)
  have hw4 : ∀ r : Nat, r ≤ high - low → IntKind.i64.wrap ((low : Int) + (r : Int)) = (low : Int) + (r : Int) := fun r hr => IntWalk.i64_in _ (by omega)
  have HW4 := Lib.hid hw4
  clear cs hbel hw1 hkeep hc hbl hbf hdi hw4
  go_enter Tryd.func57, Tryd.ntmps57
  go_wp2_with fail
  rw [HW.out]
  go_region_held3 (fun W => W.cell? ⟨w.heap.size, 0, none⟩ = some (.int .i64 ((low : Nat) : Int))) (first | exact HK.out _ ⟨rfl, rfl, rfl, Nat.le_refl _, fun _ _ => rfl⟩ | exact HK.out _ ⟨hb1.os, hb1.tape, hb1.output, hb1.size, hb1.block⟩)
    (first | (go_at_call 75; (with_reducible refine (CS.out _ ?_).mono ?_); exact ⟨rfl, rfl, rfl, Nat.le_refl _, fun _ _ => rfl⟩; rintro e w2 ⟨⟨r, hr, rfl⟩, hb1'⟩; have hb1 : Below w1.heap.size w1 w2 := ⟨hb1'.os, hb1'.tape, hb1'.output, hb1'.size, hb1'.block⟩; have hw5 := HW4.out r hr.1))
  all_goals (
    go_wp2
    go_ret
    obtain ⟨f1, f2, f3⟩ := hr
    refine ⟨⟨low + r, ⟨by omega, by omega, ?_, ?_⟩, ?_⟩, HB.out.trans (hb1.mono HB.out.size)⟩
    · rcases f2 with h | h
      · left; omega
      · by_cases h0 : r = 0
        · left; omega
        · right
          simpa [show low + (r - 1) + 1 = low + r by omega] using h
    · rcases f3 with h | h
      · left; omega
      · right; simpa using h
    · go_num)
end Go.Proofs.YtildgpahacaglaaDoor
