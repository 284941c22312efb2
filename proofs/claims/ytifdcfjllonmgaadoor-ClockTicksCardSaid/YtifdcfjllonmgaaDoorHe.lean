/-
  Layer 8: fleets; the contracts of the reference's Valid and follows.
-/
import Derived.Test.YtifdcfjllonmgaaDoorHd
namespace Go.Proofs.YtifdcfjllonmgaaDoor
open Go Go.Proofs Go.RowKit Go.Lib

/-- A fleet. -/
structure Fl where
  dr : List Int
  lat : Int
  lia : Int
  sv : List Int
  tm : List Int
/-- A fleet's lists are no longer than memory holds. -/
def Fl.fit (f : Fl) : Prop := f.dr.length ≤ 140737488355328 ∧ f.sv.length ≤ 140737488355328 ∧ f.tm.length ≤ 140737488355328
/-- A value reads as a fleet. -/
def FlAt (W : World) (v : Value) (f : Fl) : Prop := ∃ a1 c1 a2 c2 a3 c3, v = .agg #[.slice a1 f.dr.length c1, .int .i64 f.lat, .int .i64 f.lia, .slice a2 f.sv.length c2, .slice a3 f.tm.length c3] ∧ RL KI W a1 f.dr ∧ RL KI W a2 f.sv ∧ RL KI W a3 f.tm
theorem FlAt.below {W W' : World} {v : Value} {f : Fl} (h : FlAt W v f) (b : Below W.heap.size W W') : FlAt W' v f := by
  obtain ⟨a1, c1, a2, c2, a3, c3, e, h1, h2, h3⟩ := h
  exact ⟨a1, c1, a2, c2, a3, c3, e, h1.below b, h2.below b, h3.below b⟩
/-- A fleet is valid. -/
def flB (f : Fl) : Bool :=
  (inB f.dr.length 1 6 && allB f.dr 1000 && inB f.lat 0 1000000 && inB f.lia 0 2 && decide (f.lia < (f.dr.length : Int))) &&
  (inB f.tm.length 1 8 && allB f.tm 3 && inB f.sv.length 1 12 && allB f.sv ((f.tm.length : Int) - 1))
set_option maxRecDepth 100000 in
set_option maxHeartbeats 8000000 in
theorem validR_any (v : Value) (f : Fl) (hfit : f.fit) (w : World) (hf : FlAt w v f) :
    Calls Tryd.prog 15 #[v] w fun e w' => e = .returned (.bool (flB f)) ∧ Below w.heap.size w w' := by
  obtain ⟨a1, c1, a2, c2, a3, c3, rfl, r1, r2, r3⟩ := hf
  obtain ⟨h1, h2, h3⟩ := hfit
  obtain ⟨dr, lat, lia, sv, tm⟩ := f
  dsimp only at *
  obtain ⟨B, hB⟩ : ∃ B, flB ⟨dr, lat, lia, sv, tm⟩ = B := ⟨_, rfl⟩
  rw [hB]
  have HB := Lib.hid hB
  have HR1 := Lib.hid (fun W (b : Below w.heap.size w W) => r1.below b)
  have HR2 := Lib.hid (fun W (b : Below w.heap.size w W) => r2.below b)
  have HR3 := Lib.hid (fun W (b : Below w.heap.size w W) => r3.below b)
  have HX := Lib.hid (fun o => (Below.refl w.heap.size w).alloc (Nat.le_refl _) o)
  have HM1 := Lib.hid (show dr.length ≤ maxLen by unfold maxLen; omega)
  have HM2 := Lib.hid (show sv.length ≤ maxLen by unfold maxLen; omega)
  have HM3 := Lib.hid (show tm.length ≤ maxLen by unfold maxLen; omega)
  clear hB r1 r2 r3
  go_enter Tryd.func15, Tryd.ntmps15
  cases k1 : inB (dr.length : Int) 1 6 with
  | false =>
    have HF := Lib.hid (show B = false by rw [← HB.out]; simp [flB, k1])
    go_wp2_with (first | (go_at_call 42; ((with_reducible refine (in_any _ _ _ _).mono ?_); rintro e w' ⟨rfl, rfl⟩)) | (go_at_call 43; ((with_reducible refine (allR_any _ _ dr _ (HM1.out) _ (HR1.out _ (HX.out _))).mono ?_); rintro e w' ⟨rfl, rfl⟩)) | (go_at_call 43; ((with_reducible refine (allR_any _ _ tm _ (HM3.out) _ (HR3.out _ (HX.out _))).mono ?_); rintro e w' ⟨rfl, rfl⟩)) | (go_at_call 43; ((with_reducible refine (allR_any _ _ sv _ (HM2.out) _ (HR2.out _ (HX.out _))).mono ?_); rintro e w' ⟨rfl, rfl⟩)))
    go_ret
    exact ⟨by rw [HF.out]; rfl, (Below.refl _ _).alloc (Nat.le_refl _) _⟩
  | true =>
    cases k2 : allB dr 1000 with
    | false =>
      have HF := Lib.hid (show B = false by rw [← HB.out]; simp [flB, k1, k2])
      go_wp2_with (first | (go_at_call 42; ((with_reducible refine (in_any _ _ _ _).mono ?_); rintro e w' ⟨rfl, rfl⟩)) | (go_at_call 43; ((with_reducible refine (allR_any _ _ dr _ (HM1.out) _ (HR1.out _ (HX.out _))).mono ?_); rintro e w' ⟨rfl, rfl⟩)) | (go_at_call 43; ((with_reducible refine (allR_any _ _ tm _ (HM3.out) _ (HR3.out _ (HX.out _))).mono ?_); rintro e w' ⟨rfl, rfl⟩)) | (go_at_call 43; ((with_reducible refine (allR_any _ _ sv _ (HM2.out) _ (HR2.out _ (HX.out _))).mono ?_); rintro e w' ⟨rfl, rfl⟩)))
      go_ret
      exact ⟨by rw [HF.out]; rfl, (Below.refl _ _).alloc (Nat.le_refl _) _⟩
    | true =>
      cases k3 : inB lat 0 1000000 with
      | false =>
        have HF := Lib.hid (show B = false by rw [← HB.out]; simp [flB, k1, k2, k3])
        go_wp2_with (first | (go_at_call 42; ((with_reducible refine (in_any _ _ _ _).mono ?_); rintro e w' ⟨rfl, rfl⟩)) | (go_at_call 43; ((with_reducible refine (allR_any _ _ dr _ (HM1.out) _ (HR1.out _ (HX.out _))).mono ?_); rintro e w' ⟨rfl, rfl⟩)) | (go_at_call 43; ((with_reducible refine (allR_any _ _ tm _ (HM3.out) _ (HR3.out _ (HX.out _))).mono ?_); rintro e w' ⟨rfl, rfl⟩)) | (go_at_call 43; ((with_reducible refine (allR_any _ _ sv _ (HM2.out) _ (HR2.out _ (HX.out _))).mono ?_); rintro e w' ⟨rfl, rfl⟩)))
        go_ret
        exact ⟨by rw [HF.out]; rfl, (Below.refl _ _).alloc (Nat.le_refl _) _⟩
      | true =>
        cases k4 : inB lia 0 2 with
        | false =>
          have HF := Lib.hid (show B = false by rw [← HB.out]; simp [flB, k1, k2, k3, k4])
          go_wp2_with (first | (go_at_call 42; ((with_reducible refine (in_any _ _ _ _).mono ?_); rintro e w' ⟨rfl, rfl⟩)) | (go_at_call 43; ((with_reducible refine (allR_any _ _ dr _ (HM1.out) _ (HR1.out _ (HX.out _))).mono ?_); rintro e w' ⟨rfl, rfl⟩)) | (go_at_call 43; ((with_reducible refine (allR_any _ _ tm _ (HM3.out) _ (HR3.out _ (HX.out _))).mono ?_); rintro e w' ⟨rfl, rfl⟩)) | (go_at_call 43; ((with_reducible refine (allR_any _ _ sv _ (HM2.out) _ (HR2.out _ (HX.out _))).mono ?_); rintro e w' ⟨rfl, rfl⟩)))
          go_ret
          exact ⟨by rw [HF.out]; rfl, (Below.refl _ _).alloc (Nat.le_refl _) _⟩
        | true =>
          by_cases k5 : lia < (dr.length : Int)
          · have nk5 : decide ((dr.length : Int) ≤ lia) = false := decide_eq_false (by omega)
            cases k6 : inB (tm.length : Int) 1 8 with
            | false =>
              have HF := Lib.hid (show B = false by rw [← HB.out]; simp [flB, k1, k2, k3, k4, k5, k6])
              go_wp2_with (first | (go_at_call 42; ((with_reducible refine (in_any _ _ _ _).mono ?_); rintro e w' ⟨rfl, rfl⟩)) | (go_at_call 43; ((with_reducible refine (allR_any _ _ dr _ (HM1.out) _ (HR1.out _ (HX.out _))).mono ?_); rintro e w' ⟨rfl, rfl⟩)) | (go_at_call 43; ((with_reducible refine (allR_any _ _ tm _ (HM3.out) _ (HR3.out _ (HX.out _))).mono ?_); rintro e w' ⟨rfl, rfl⟩)) | (go_at_call 43; ((with_reducible refine (allR_any _ _ sv _ (HM2.out) _ (HR2.out _ (HX.out _))).mono ?_); rintro e w' ⟨rfl, rfl⟩)))
              go_ret
              exact ⟨by rw [HF.out]; rfl, (Below.refl _ _).alloc (Nat.le_refl _) _⟩
            | true =>
              cases k7 : allB tm 3 with
              | false =>
                have HF := Lib.hid (show B = false by rw [← HB.out]; simp [flB, k1, k2, k3, k4, k5, k6, k7])
                go_wp2_with (first | (go_at_call 42; ((with_reducible refine (in_any _ _ _ _).mono ?_); rintro e w' ⟨rfl, rfl⟩)) | (go_at_call 43; ((with_reducible refine (allR_any _ _ dr _ (HM1.out) _ (HR1.out _ (HX.out _))).mono ?_); rintro e w' ⟨rfl, rfl⟩)) | (go_at_call 43; ((with_reducible refine (allR_any _ _ tm _ (HM3.out) _ (HR3.out _ (HX.out _))).mono ?_); rintro e w' ⟨rfl, rfl⟩)) | (go_at_call 43; ((with_reducible refine (allR_any _ _ sv _ (HM2.out) _ (HR2.out _ (HX.out _))).mono ?_); rintro e w' ⟨rfl, rfl⟩)))
                go_ret
                exact ⟨by rw [HF.out]; rfl, (Below.refl _ _).alloc (Nat.le_refl _) _⟩
              | true =>
                cases k8 : inB (sv.length : Int) 1 12 with
                | false =>
                  have HF := Lib.hid (show B = false by rw [← HB.out]; simp [flB, k1, k2, k3, k4, k5, k6, k7, k8])
                  go_wp2_with (first | (go_at_call 42; ((with_reducible refine (in_any _ _ _ _).mono ?_); rintro e w' ⟨rfl, rfl⟩)) | (go_at_call 43; ((with_reducible refine (allR_any _ _ dr _ (HM1.out) _ (HR1.out _ (HX.out _))).mono ?_); rintro e w' ⟨rfl, rfl⟩)) | (go_at_call 43; ((with_reducible refine (allR_any _ _ tm _ (HM3.out) _ (HR3.out _ (HX.out _))).mono ?_); rintro e w' ⟨rfl, rfl⟩)) | (go_at_call 43; ((with_reducible refine (allR_any _ _ sv _ (HM2.out) _ (HR2.out _ (HX.out _))).mono ?_); rintro e w' ⟨rfl, rfl⟩)))
                  go_ret
                  exact ⟨by rw [HF.out]; rfl, (Below.refl _ _).alloc (Nat.le_refl _) _⟩
                | true =>
                  cases k9 : allB sv ((tm.length : Int) - 1) with
                  | false =>
                    have HF := Lib.hid (show B = false by rw [← HB.out]; simp [flB, k1, k2, k3, k4, k5, k6, k7, k8, k9])
                    go_wp2_with (first | (go_at_call 42; ((with_reducible refine (in_any _ _ _ _).mono ?_); rintro e w' ⟨rfl, rfl⟩)) | (go_at_call 43; ((with_reducible refine (allR_any _ _ dr _ (HM1.out) _ (HR1.out _ (HX.out _))).mono ?_); rintro e w' ⟨rfl, rfl⟩)) | (go_at_call 43; ((with_reducible refine (allR_any _ _ tm _ (HM3.out) _ (HR3.out _ (HX.out _))).mono ?_); rintro e w' ⟨rfl, rfl⟩)) | (go_at_call 43; ((with_reducible refine (allR_any _ _ sv _ (HM2.out) _ (HR2.out _ (HX.out _))).mono ?_); rintro e w' ⟨rfl, rfl⟩)))
                    go_ret
                    exact ⟨by rw [HF.out]; rfl, (Below.refl _ _).alloc (Nat.le_refl _) _⟩
                  | true =>
                    have HF := Lib.hid (show B = true by rw [← HB.out]; simp [flB, k1, k2, k3, k4, k5, k6, k7, k8, k9])
                    go_wp2_with (first | (go_at_call 42; ((with_reducible refine (in_any _ _ _ _).mono ?_); rintro e w' ⟨rfl, rfl⟩)) | (go_at_call 43; ((with_reducible refine (allR_any _ _ dr _ (HM1.out) _ (HR1.out _ (HX.out _))).mono ?_); rintro e w' ⟨rfl, rfl⟩)) | (go_at_call 43; ((with_reducible refine (allR_any _ _ tm _ (HM3.out) _ (HR3.out _ (HX.out _))).mono ?_); rintro e w' ⟨rfl, rfl⟩)) | (go_at_call 43; ((with_reducible refine (allR_any _ _ sv _ (HM2.out) _ (HR2.out _ (HX.out _))).mono ?_); rintro e w' ⟨rfl, rfl⟩)))
                    go_ret
                    exact ⟨by rw [HF.out]; rfl, (Below.refl _ _).alloc (Nat.le_refl _) _⟩
          · have nk5 : decide ((dr.length : Int) ≤ lia) = true := decide_eq_true (by omega)
            have mk5 : ¬ lia < (dr.length : Int) := k5
            have HF := Lib.hid (show B = false by rw [← HB.out]; simp [flB, k1, k2, k3, k4, k5])
            go_wp2_with (first | (go_at_call 42; ((with_reducible refine (in_any _ _ _ _).mono ?_); rintro e w' ⟨rfl, rfl⟩)) | (go_at_call 43; ((with_reducible refine (allR_any _ _ dr _ (HM1.out) _ (HR1.out _ (HX.out _))).mono ?_); rintro e w' ⟨rfl, rfl⟩)) | (go_at_call 43; ((with_reducible refine (allR_any _ _ tm _ (HM3.out) _ (HR3.out _ (HX.out _))).mono ?_); rintro e w' ⟨rfl, rfl⟩)) | (go_at_call 43; ((with_reducible refine (allR_any _ _ sv _ (HM2.out) _ (HR2.out _ (HX.out _))).mono ?_); rintro e w' ⟨rfl, rfl⟩)))
            go_ret
            exact ⟨by rw [HF.out]; rfl, (Below.refl _ _).alloc (Nat.le_refl _) _⟩
/-- What two events and the lists of kinds say: whether the second one does not happen before the first one, and by how much later at least. -/
def folB (a b : Ev) : Bool :=
  (a.kd == 3 && b.kd == 4 && a.lk == b.lk) || (a.kd == 5 && b.kd == 6 && a.lk == b.lk && a.gn == b.gn) || (a.kd == 6 && b.kd == 5 && a.lk == b.lk && a.gn + 1 == b.gn) || (a.kd == 1 && b.kd == 1 && b.lk == a.sp)
def folN (lat : Int) (a b : Ev) : Int := if a.kd == 3 && b.kd == 4 && a.lk == b.lk then lat else 0
/-- The grants of an event may be counted on. -/
def Ev.fit (a : Ev) : Prop := -9223372036854775808 ≤ a.gn ∧ a.gn < 9223372036854775807
def FolPost (n : Nat) (W : World) (b : Bool) (x : Int) (e : Ending) (w' : World) : Prop := e = .returned (.tuple #[.bool b, .int .i64 x]) ∧ Below n W w'

end Go.Proofs.YtifdcfjllonmgaaDoor
