/-
  Layer 8: Find, plain; the chapter's examples that the law's sane asks.
-/
import Derived.Test.YtifdcfjllonmgaaDoorJf
import Derived.Test.YtifdcfjllonmgaaDoorHn
import Derived.Test.YtifdcfjllonmgaaDoorHl
namespace Go.Proofs.YtifdcfjllonmgaaDoor
open Go Go.Proofs Go.RowKit Go.Lib

/-- The anchors that an agent's events give. -/
def fdAn (l : List Ev) (x : List Int) (a : Int) : List An := ((List.range l.length).filter fun i => (evD l i).ag == a).map fun i => ⟨(evD l i).tm + 1, xD x i + 1⟩
def fdC (f : Fl) (l : List Ev) (x : List Int) (a : Int) : Cl := ⟨f.drOf a, fdAn l x a⟩
/-- There is a clock that shows the readings of the agent. -/
def FdOk (f : Fl) (l : List Ev) (x : List Int) (a : Int) : Prop :=
  evsB f l = true ∧ timesB l.length x = true ∧ 0 ≤ a ∧ a < (f.dr.length : Int) ∧ ckB (fdC f l x a) = true ∧
  ∀ i j, i < j → j < l.length → (evD l i).ag = a → (evD l j).ag = a → shB (f.drOf a) ((evD l j).tm - (evD l i).tm) (xD x i) (xD x j) = true
noncomputable def fdB (f : Fl) (l : List Ev) (x : List Int) (a : Int) : Bool := @decide (FdOk f l x a) (Classical.propDecidable _)
theorem fdB_yes {f : Fl} {l : List Ev} {x : List Int} {a : Int} (h : FdOk f l x a) : fdB f l x a = true := @decide_eq_true _ (Classical.propDecidable _) h
theorem fdB_no {f : Fl} {l : List Ev} {x : List Int} {a : Int} (h : ¬ FdOk f l x a) : fdB f l x a = false := @decide_eq_false _ (Classical.propDecidable _) h
theorem of_fdB {f : Fl} {l : List Ev} {x : List Int} {a : Int} (h : fdB f l x a = true) : FdOk f l x a := @of_decide_eq_true _ (Classical.propDecidable _) h
noncomputable def fdV (f : Fl) (l : List Ev) (x : List Int) (a : Int) : Cl := if fdB f l x a = true then fdC f l x a else ⟨0, []⟩
noncomputable def fdE (f : Fl) (l : List Ev) (x : List Int) (a : Int) : Int := if fdB f l x a = true then 0 else 80
/-- A clock in new blocks, and a code. -/
def FindPost (w : World) (c : Cl) (er : Int) (e : Ending) (w' : World) : Prop := ∃ ad cp, e = .returned (.tuple #[.agg #[.int .i64 c.dr, .slice ad c.an.length cp], .int .i64 er]) ∧ c.an.length ≤ cp ∧ RN KA w' w.heap.size ad c.an ∧ Below w.heap.size w w'
/-! ### the law's examples -/
def sF : Fl := ⟨[0], 5, 0, [0], [0]⟩
def sF0 : Fl := ⟨[], 0, 0, [], []⟩
def sE0 : Ev := ⟨0, 0, 5, 1, 0, 0, -1, 0, 0, 0, 0, 0⟩
def sE1 : Ev := ⟨0, 1, 7, 2, 0, 0, 0, 0, 0, 0, 0, 0⟩
def sD : Cl := ⟨0, [⟨6, 1⟩]⟩
theorem s_ev0 : evB sE0 = true := by decide
theorem s_evz : evB zE = false := by decide
theorem s_fl : flB sF = true := by decide
theorem s_flz : flB sF0 = false := by decide
theorem s_ck : ckB sD = true := by decide
theorem s_ckz : ckB ⟨0, []⟩ = false := by decide
theorem two_cases {i : Nat} (h : i < 2) : i = 0 ∨ i = 1 := by omega
theorem s_evs : evsB sF [sE0, sE1] = true := evsB_yes ⟨by decide, by decide, fun i hi => by
  rcases two_cases hi with rfl | rfl <;> (unfold StepOk; decide)⟩
theorem s_evs2 : evsB sF [sE1, sE0] = false := evsB_no fun h => absurd (h.2.2 1 (by decide)) (by unfold StepOk; decide)
theorem s_con : conL sF [sE0, sE1] = [⟨1, 0, -1000001, 1⟩, ⟨0, 1, 2999999, 1⟩] := by
  unfold conL
  rw [if_pos s_evs]
  rfl
theorem s_conE : conE sF [sE0, sE1] = 0 := by unfold conE; rw [if_pos s_evs]
theorem s_ag1 : agB sF [sE0, sE1] [0, 1000001] 1 = true := agB_yes ⟨s_evs, by decide, fun i j hi hj => by
  rcases two_cases hi with rfl | rfl <;> rcases two_cases hj with rfl | rfl <;> (unfold PairOk; decide +kernel)⟩
theorem s_ag2 : agB sF [sE0, sE1] [0, 1000000] 1 = false := agB_no fun h => absurd (h.2.2 0 1 (by decide) (by decide)) (by unfold PairOk; decide +kernel)
theorem s_ag3 : agB sF [sE0, sE1] [0, 3000000] 1 = false := agB_no fun h => absurd (h.2.2 0 1 (by decide) (by decide)) (by unfold PairOk; decide +kernel)
theorem s_ag4 : agB sF [sE0, sE1] [0, 0] 0 = true := agB_yes ⟨s_evs, by decide, fun i j hi hj => by
  rcases two_cases hi with rfl | rfl <;> rcases two_cases hj with rfl | rfl <;> (unfold PairOk; decide +kernel)⟩
theorem s_r0 : readV sD 0 = 5 := readV_of (by decide) ⟨by decide, by decide⟩
theorem s_r1 : readV sD 1 = 6 := readV_of (by decide) ⟨by decide, by decide⟩
theorem s_r2 : readV sD 1000000 = 6 := readV_of (by decide) ⟨by decide, by decide⟩
theorem s_r3 : readV sD 1000001 = 7 := readV_of (by decide) ⟨by decide, by decide⟩
theorem s_fd1 : FdOk sF [sE0, sE1] [0, 1000001] 0 := ⟨s_evs, by decide, by decide, by decide, by decide, fun i j hij hj _ _ => by
  obtain ⟨rfl, rfl⟩ : i = 0 ∧ j = 1 := by have : j < 2 := hj; omega
  decide +kernel⟩
theorem s_fd2 : ¬ FdOk sF [sE0, sE1] [0, 1000000] 0 := fun h => absurd (h.2.2.2.2.2 0 1 (by decide) (by decide) (by decide) (by decide)) (by decide +kernel)
theorem s_fV1 : fdV sF [sE0, sE1] [0, 1000001] 0 = ⟨0, [⟨6, 1⟩, ⟨8, 1000002⟩]⟩ := by unfold fdV; rw [if_pos (fdB_yes s_fd1)]; rfl
theorem s_fE1 : fdE sF [sE0, sE1] [0, 1000001] 0 = 0 := by unfold fdE; rw [if_pos (fdB_yes s_fd1)]
theorem s_fV2 : fdV sF [sE0, sE1] [0, 1000000] 0 = ⟨0, []⟩ := by unfold fdV; rw [if_neg (by rw [fdB_no s_fd2]; decide)]
theorem s_fE2 : fdE sF [sE0, sE1] [0, 1000000] 0 = 80 := by unfold fdE; rw [if_neg (by rw [fdB_no s_fd2]; decide)]
/-! ### what is asked of the program -/
def EventOk (f : FuncId) : Prop := ∀ (x : Ev) (w : World), Calls Tryd.prog f #[x.val] w fun e w' => e = .returned (.bool (evB x)) ∧ Below w.heap.size w w'
def ValidOk (f : FuncId) : Prop := ∀ (v : Value) (x : Fl) (w : World), x.fit → FlAt w v x → Calls Tryd.prog f #[v] w fun e w' => e = .returned (.bool (flB x)) ∧ Below w.heap.size w w'
def EventsOk (f : FuncId) : Prop := ∀ (v : Value) (x : Fl) (ad : Option Addr) (c : Nat) (l : List Ev) (w : World), x.fit → l.length ≤ maxLen → l.length ≤ c → FlAt w v x → RL KE w ad l → Calls Tryd.prog f #[v, .slice ad l.length c] w fun e w' => e = .returned (.bool (evsB x l)) ∧ Below w.heap.size w w'
def ConsOk (f : FuncId) : Prop := ∀ (v : Value) (x : Fl) (ad : Option Addr) (c : Nat) (l : List Ev) (w : World), x.fit → l.length ≤ maxLen → l.length ≤ c → FlAt w v x → RL KE w ad l → Calls Tryd.prog f #[v, .slice ad l.length c] w (ConPost w (conL x l) (conE x l))
def AgreesOk (f : FuncId) : Prop := ∀ (v : Value) (x : Fl) (ad ad2 : Option Addr) (c c2 : Nat) (l : List Ev) (y : List Int) (m : Int) (w : World), -9223372036854775808 ≤ m → m ≤ 9223372036854775807 → x.fit → l.length ≤ maxLen → l.length ≤ c → y.length ≤ maxLen → y.length ≤ c2 → FlAt w v x → RL KE w ad l → RL KI w ad2 y → Calls Tryd.prog f #[v, .slice ad l.length c, .slice ad2 y.length c2, .int .i64 m] w fun e w' => e = .returned (.bool (agB x l y m)) ∧ Below w.heap.size w w'
def ValidClockOk (f : FuncId) : Prop := ∀ (v : Value) (x : Cl) (w : World), CkAt w v x → x.an.length ≤ maxLen → Calls Tryd.prog f #[v] w fun e w' => e = .returned (.bool (ckB x)) ∧ Below w.heap.size w w'
def FindOk (f : FuncId) : Prop := ∀ (v : Value) (x : Fl) (ad ad2 : Option Addr) (c c2 : Nat) (l : List Ev) (y : List Int) (a : Int) (w : World), -9223372036854775808 ≤ a → a ≤ 9223372036854775807 → x.fit → l.length ≤ maxLen → l.length ≤ c → y.length ≤ maxLen → y.length ≤ c2 → FlAt w v x → RL KE w ad l → RL KI w ad2 y → Calls Tryd.prog f #[v, .slice ad l.length c, .slice ad2 y.length c2, .int .i64 a] w (FindPost w (fdV x l y a) (fdE x l y a))
end Go.Proofs.YtifdcfjllonmgaaDoor
