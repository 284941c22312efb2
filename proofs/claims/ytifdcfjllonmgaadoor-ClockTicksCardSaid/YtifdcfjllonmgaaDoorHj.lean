/-
  Layer 8: the contracts of the reference's Shown and Times.
-/
import Derived.Test.YtifdcfjllonmgaaDoorHi
import Derived.Test.YtifdcfjllonmgaaDoorHf
namespace Go.Proofs.YtifdcfjllonmgaaDoor
open Go Go.Proofs Go.RowKit Go.Lib

/-- The readings of two events of an agent, the first of which has the smaller number, fit times. -/
def shB (dr d s t : Int) : Bool := !decide (t < s) && !(decide (1 ≤ d) && decide (t - s ≤ (d - 1) * (1000000 - dr))) && decide (t - s < (d + 1) * (1000000 + dr))
def Fl.drOf (f : Fl) (ag : Int) : Int := f.dr.getD ag.toNat 0
theorem box_two8 (w : World) (o1 o2 o3 : Obj) (b i : Nat) (h : b < w.heap.size) : (((w.alloc o1).alloc o2).alloc o3).cell? ⟨b, i, none⟩ = w.cell? ⟨b, i, none⟩ := (below_three8 w o1 o2 o3).cell (p := ⟨b, i, none⟩) h
set_option maxRecDepth 100000 in
set_option maxHeartbeats 8000000 in
theorem shownR_any (v : Value) (f : Fl) (a b : Ev) (s t : Int) (w : World) (hf : FlAt w v f)
    (ha0 : 0 ≤ a.ag) (ha1 : a.ag < (f.dr.length : Int)) (hd0 : 0 ≤ f.drOf a.ag) (hd1 : f.drOf a.ag ≤ 1000)
    (ht0 : 0 ≤ a.tm) (ht1 : a.tm ≤ 1000000) (hu0 : 0 ≤ b.tm) (hu1 : b.tm ≤ 1000000) (hs0 : -17592186044416 ≤ s) (hs1 : s ≤ 17592186044416) (hr0 : -17592186044416 ≤ t) (hr1 : t ≤ 17592186044416) :
    Calls Tryd.prog 53 #[v, a.val, b.val, .int .i64 s, .int .i64 t] w fun e w' => e = .returned (.bool (shB (f.drOf a.ag) (b.tm - a.tm) s t)) ∧ Below w.heap.size w w' := by
  obtain ⟨x1, c1, x2, c2, x3, c3, rfl, hI, _, _⟩ := hf
  obtain ⟨dr, lat, lia, sv, tm⟩ := f
  obtain ⟨ag1, sq1, tm1, kd1, tr1, sp1, lk1, gn1, op1, vr1, pe1, bt1⟩ := a
  obtain ⟨ag2, sq2, tm2, kd2, tr2, sp2, lk2, gn2, op2, vr2, pe2, bt2⟩ := b
  unfold Ev.val
  unfold Fl.drOf at *
  dsimp only at *
  obtain ⟨na, rfl⟩ := Int.eq_ofNat_of_zero_le ha0
  rw [Int.toNat_natCast] at hd0 hd1 ⊢
  have hna : na < dr.length := by omega
  obtain ⟨gb, go_, rfl, hgb, hc⟩ := hI.int na hna
  have hik := fun W => at_int8 gb go_ dr.length c1 na hna W
  have c0 := hc _ (below_three8 w (.cells #[.slice (some ⟨gb, go_, none⟩) dr.length c1, .int .i64 lat, .int .i64 lia, .slice x2 sv.length c2, .slice x3 tm.length c3] 24) (.cells #[.int .i64 ↑na, .int .i64 sq1, .int .i64 tm1, .int .i64 kd1, .int .i64 tr1, .int .i64 sp1, .int .i64 lk1, .int .i64 gn1, .int .i64 op1, .int .i64 vr1, .int .i64 pe1, .int .i64 bt1] 46) (.cells #[.int .i64 ag2, .int .i64 sq2, .int .i64 tm2, .int .i64 kd2, .int .i64 tr2, .int .i64 sp2, .int .i64 lk2, .int .i64 gn2, .int .i64 op2, .int .i64 vr2, .int .i64 pe2, .int .i64 bt2] 46))
  have hg : dr.getD na 0 = dr[na] := by rw [List.getD_eq_getElem?_getD, List.getElem?_eq_getElem hna]; rfl
  rw [hg] at hd0 hd1 ⊢
  have c00 := hc w (Below.refl _ _)
  generalize dr[na] = D at *
  clear hg hc hI ha0
  obtain ⟨p1, p2⟩ := mul_bd (x := tm2 - tm1 - 1) (y := 1000000 - D) (X := 1000001) (Y := 1000000) (by omega) (by omega) (by omega) (by omega) (by decide)
  obtain ⟨q1, q2⟩ := mul_bd (x := tm2 - tm1 + 1) (y := 1000000 + D) (X := 1000001) (Y := 1001000) (by omega) (by omega) (by omega) (by omega) (by decide)
  obtain ⟨B, hB⟩ : ∃ B, shB D (tm2 - tm1) s t = B := ⟨_, rfl⟩
  rw [hB]
  have HB := Lib.hid hB
  clear hB
  go_enter Tryd.func53, Tryd.ntmps53
  have fin : ∀ (W : World), Below w.heap.size w W → Below w.heap.size w W := fun _ h => h
  by_cases h1 : t < s
  · have HF := Lib.hid (show B = false by rw [← HB.out]; unfold shB; rw [decide_eq_true h1]; rfl)
    go_wp2_with fail
    go_ret
    exact ⟨by rw [HF.out]; rfl, below_three8 _ _ _ _⟩
  · by_cases h2 : 1 ≤ tm2 - tm1
    · have e2 : decide (1 ≤ tm2 - tm1) = true := decide_eq_true h2
      by_cases h3 : t - s ≤ (tm2 - tm1 - 1) * (1000000 - D)
      · have HF := Lib.hid (show B = false by rw [← HB.out]; unfold shB; rw [decide_eq_true h3, e2]; simp)
        go_wp2_with fail
        go_ret
        exact ⟨by rw [HF.out]; rfl, below_three8 _ _ _ _⟩
      · have HF := Lib.hid (show B = decide (t - s < (tm2 - tm1 + 1) * (1000000 + D)) by rw [← HB.out]; unfold shB; rw [decide_eq_false h1, decide_eq_false h3, e2]; simp)
        go_wp2_with fail
        go_ret
        exact ⟨by rw [HF.out]; rfl, below_three8 _ _ _ _⟩
    · have e2 : decide (1 ≤ tm2 - tm1) = false := decide_eq_false h2
      have HF := Lib.hid (show B = decide (t - s < (tm2 - tm1 + 1) * (1000000 + D)) by rw [← HB.out]; unfold shB; rw [decide_eq_false h1, e2]; simp)
      go_wp2_with fail
      go_ret
      exact ⟨by rw [HF.out]; rfl, below_three8 _ _ _ _⟩
def timesB (n : Nat) (x : List Int) : Bool := x.all (fun v => inB v (-17592186044416) 17592186044416) && decide (x.length = n)
set_option maxRecDepth 100000 in
set_option maxHeartbeats 4000000 in
theorem timesR_any (ad ad2 : Option Addr) (n c c2 : Nat) (l : List Int) (hl : l.length ≤ maxLen) (w : World) (hI : RL KI w ad2 l) :
    Calls Tryd.prog 52 #[.slice ad n c, .slice ad2 l.length c2] w fun e w' => e = .returned (.bool (timesB n l)) ∧ w = w' := by
  unfold maxLen at hl
  obtain ⟨B, hB⟩ : ∃ B, timesB n l = B := ⟨_, rfl⟩
  rw [hB]
  have HYES := Lib.hid (fun h : ∀ x ∈ l, inB x (-17592186044416) 17592186044416 = true => show B = decide (l.length = n) by rw [← hB]; unfold timesB; rw [List.all_eq_true.2 h]; rfl)
  have HNO := Lib.hid (fun (x : Int) (h : x ∈ l) (h2 : inB x (-17592186044416) 17592186044416 = false) => show B = false by
    rw [← hB]; unfold timesB
    have : l.all (fun v => inB v (-17592186044416) 17592186044416) = false := List.all_eq_false.2 ⟨x, h, by simp [h2]⟩
    rw [this]; rfl)
  have HC := Lib.hid (fun k hk => hI.int k hk)
  clear hB hI
  go_enter Tryd.func52, Tryd.ntmps52
  go_wp2_with fail
  go_loop [5] (fun i => ∃ k : Nat, k ≤ l.length ∧ i = .int .i64 k ∧ Hid (∀ j (hj : j < l.length), j < k → inB l[j] (-17592186044416) 17592186044416 = true)) (fun i => l.length - (RowKit.intOf i).toNat)
  case atStart => exact ⟨0, Nat.zero_le _, rfl, Lib.hid (fun j _ h => absurd h (Nat.not_lt_zero _))⟩
  case round =>
    obtain ⟨k, hk, rfl, HK⟩ := hrel
    by_cases hlt : k < l.length
    · have hki : (k : Int) < (l.length : Int) := by omega
      obtain ⟨b, o, rfl, _, e2⟩ := HC.out k hlt
      have hik := fun W => at_int8 b o l.length c2 k hlt W
      have c0 := e2 w (Below.refl _ _)
      have HLT := Lib.hid hlt
      have HX := Lib.hid (fun h : inB l[k] (-17592186044416) 17592186044416 = false => HNO.out l[k] (List.getElem_mem hlt) h)
      have HY := Lib.hid (show inB l[k] (-17592186044416) 17592186044416 = true → ∀ j (hj : j < l.length), j < k + 1 → inB l[j] (-17592186044416) 17592186044416 = true from fun h j hj hjk => by
        rcases Nat.lt_or_ge j k with h9 | h9
        · exact HK.out j hj h9
        · have : j = k := by omega
          subst this
          exact h)
      generalize l[k] = x at *
      clear e2 hlt
      cases hx : inB x (-17592186044416) 17592186044416 with
      | true =>
        have HZ := Lib.hid (HY.out hx)
        go_wp2_with (go_at_call 42; refine (in_any _ _ _ _).mono ?_; rintro e w' ⟨rfl, rfl⟩)
        go_round
        case rel => exact ⟨k + 1, HLT.out, by go_num, HZ⟩
        case measure => have h9 := HLT.out; simp [RowKit.intOf]; omega
      | false =>
        have HZ := Lib.hid (HX.out hx)
        go_wp2_with (go_at_call 42; refine (in_any _ _ _ _).mono ?_; rintro e w' ⟨rfl, rfl⟩)
        go_ret
        exact ⟨by rw [HZ.out]; rfl, rfl⟩
    · obtain rfl : k = l.length := by omega
      have HF := Lib.hid (HYES.out (fun x hx => by obtain ⟨i, h1, rfl⟩ := List.getElem_of_mem hx; exact HK.out i h1 h1))
      have hki : ¬ (l.length : Int) < (l.length : Int) := by omega
      by_cases hq : l.length = n
      · have k1 : ((l.length : Int) == (n : Int)) = true := by rw [hq]; simp
        have HQ := Lib.hid hq
        clear hq
        go_wp2
        go_ret
        exact ⟨by rw [HF.out, decide_eq_true HQ.out]; rfl, rfl⟩
      · have k1 : ((l.length : Int) == (n : Int)) = false := by rw [beq_eq_false_iff_ne]; omega
        have HQ := Lib.hid hq
        go_wp2
        go_ret
        exact ⟨by rw [HF.out, decide_eq_false HQ.out]; rfl, rfl⟩
end Go.Proofs.YtifdcfjllonmgaaDoor
