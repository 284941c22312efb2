/-
  Layer 8, the program: its rules.
-/
import Derived.Test.YtifdcfjllonmgaaDoorNi
namespace Go.Proofs.YtifdcfjllonmgaaDoor
open Go Go.Proofs Go.RowKit Go.Lib

/-- A rule as it lies in memory: two function values. -/
structure Rl where
  f1 : Nat
  b1 : Array Value
  f2 : Nat
  b2 : Array Value
def Rl.cells (r : Rl) : List Value := [.func (.func r.f1) #[] r.b1, .func (.func r.f2) #[] r.b2]
def KR : RowK Rl where
  n := 2
  bytes := 16
  et := 116
  st := 82
  zero := .agg #[.nilFunc, .nilFunc]
  cs := Rl.cells
  len := fun _ => rfl
  one := fun x u hu => by
    simp [Rl.cells] at hu
    rcases hu with rfl | rfl <;> rfl
  pos := by decide
  bb := by decide
  und := by kernel_rfl
  elem := by kernel_rfl
  info := by kernel_rfl
  zs := rfl
theorem CellsAt.rnR {W : World} {base g : Nat} {l : List Rl} (h : CellsAt W g (KR.vs l)) (hb : base ≤ g) (hg : g < W.heap.size) : RN KR W base (some ⟨g, 0, none⟩) l := by
  refine .inr ⟨g, 0, rfl, hb, hg, fun i hi j hj => ?_⟩
  have hl := KR.vs_length l
  have hij : KR.n * i + j < (KR.vs l).length := by
    rw [hl]
    have : KR.n * (i + 1) ≤ KR.n * l.length := Nat.mul_le_mul_left _ hi
    rw [Nat.mul_add, Nat.mul_one, Nat.mul_comm KR.n l.length] at this
    omega
  rw [Nat.zero_add, (h _ hij).1, ← KR.vs_get l i j hi hj, List.getElem?_eq_getElem hij]
/-- What a rule says of two events. -/
structure RSem where
  ap : Ev → Ev → Bool
  lo : Ev → Ev → Int
  hi : Ev → Ev → Int
def RlOk (W : World) (good : Ev → Prop) (r : Rl) (s : RSem) : Prop :=
  (∀ args W, (callFunc r.f1 args).run Tryd.prog W = .ok (.enter r.f1 args) W) ∧ (∀ args W, (callFunc r.f2 args).run Tryd.prog W = .ok (.enter r.f2 args) W) ∧
  ∀ W', Below W.heap.size W W' → ∀ a b, good a → good b → Calls Tryd.prog r.f1 (#[a.val, b.val] ++ r.b1) W' (fun e w' => e = .returned (.bool (s.ap a b)) ∧ Below W'.heap.size W' w') ∧ Calls Tryd.prog r.f2 (#[a.val, b.val] ++ r.b2) W' (IvPost W' (s.lo a b) (s.hi a b))
theorem RlOk.below {W W' : World} {good : Ev → Prop} {r : Rl} {s : RSem} (h : RlOk W good r s) (b : Below W.heap.size W W') : RlOk W' good r s :=
  ⟨h.1, h.2.1, fun X hb => h.2.2 X (b.trans (hb.mono b.size))⟩
def Good (f : Fl) (e : Ev) : Prop := evB e = true ∧ e.ag < (f.dr.length : Int)
def nB : Int := 1152921504606846976
def s0S (f : Fl) : RSem := ⟨lateB, fun a b => low8 (f.drOf a.ag) (b.tm - a.tm), fun a b => hiV (f.drOf a.ag) (b.tm - a.tm)⟩
def s1S (f : Fl) : RSem := ⟨msgB, fun _ _ => f.lat, fun _ _ => nB⟩
def s2S : RSem := ⟨grtB, fun _ _ => 0, fun _ _ => nB⟩
def s3S : RSem := ⟨chdB, fun _ _ => 0, fun _ _ => nB⟩
def rlS (f : Fl) : List RSem := [s0S f, s1S f, s2S, s3S]
def RlsOk (W : World) (good : Ev → Prop) (rs : List Rl) (ss : List RSem) : Prop := rs.length = ss.length ∧ ∀ i (h : i < rs.length) (h2 : i < ss.length), RlOk W good rs[i] ss[i]
theorem RlsOk.below {W W' : World} {good : Ev → Prop} {rs : List Rl} {ss : List RSem} (h : RlsOk W good rs ss) (b : Below W.heap.size W W') : RlsOk W' good rs ss := ⟨h.1, fun i h1 h2 => (h.2 i h1 h2).below b⟩
theorem RlsOk.one {W : World} {good : Ev → Prop} {rs : List Rl} {ss : List RSem} (h : RlsOk W good rs ss) : RlsOk W good (rs.take 1) (ss.take 1) := by
  refine ⟨by rw [List.length_take, List.length_take, h.1], fun i h1 h2 => ?_⟩
  rw [List.getElem_take, List.getElem_take]
  exact h.2 i _ _
def RulesPost (w : World) (f : Fl) (e : Ending) (w' : World) : Prop := ∃ g rs, e = .returned (.slice (some ⟨g, 0, none⟩) 4 4) ∧ RL KR w' (some ⟨g, 0, none⟩) rs ∧ RlsOk w' (Good f) rs (rlS f) ∧ Below w.heap.size w w'
set_option maxRecDepth 100000 in
set_option maxHeartbeats 8000000 in
theorem rules_u (v : Value) (f : Fl) (w : World) (hf : FlAt w v f) (hfl : flB f = true) : Calls Tryd.prog 45 #[v] w (RulesPost w f) := by
  obtain ⟨x1, c1, x2, c3, x3, c4, rfl, hdr, _, _⟩ := hf
  obtain ⟨w1, V1, Z1, K1, B1⟩ := lay8 w [.slice x1 f.dr.length c1, .int .i64 f.lat, .int .i64 f.lia, .slice x2 f.sv.length c3, .slice x3 f.tm.length c4] 24
  obtain ⟨w2, V2, Z2, K2, B2⟩ := lay8 w1 [.int .i64 f.lat] 3
  obtain ⟨w3, V3, Z3, K3, B3⟩ := lay8 w2 [.int .i64 0] 3
  obtain ⟨w4, V4, Z4, K4, B4⟩ := lay8 w3 [.int .i64 0] 3
  rw [Z1] at Z2 K2 B2
  rw [Z2] at Z3 K3 B3
  rw [Z3] at Z4 K4 B4
  simp only [Nat.add_assoc, Nat.reduceAdd] at Z2 Z3 Z4 K3 K4 B3 B4
  obtain ⟨w5, V5, Z5, K5, B5⟩ := lay8 w4 [.func (.func 66) #[] #[], .func (.func 67) #[] #[.pointer (some ⟨w.heap.size, 0, none⟩)], .func (.func 69) #[] #[], .func (.func 80) #[] #[.pointer (some ⟨w.heap.size + 1, 0, none⟩)], .func (.func 71) #[] #[], .func (.func 80) #[] #[.pointer (some ⟨w.heap.size + 2, 0, none⟩)], .func (.func 72) #[] #[], .func (.func 80) #[] #[.pointer (some ⟨w.heap.size + 3, 0, none⟩)]] 116
  rw [Z4] at Z5 K5 B5
  have F1 := (((K1.up B2 (by omega)).up B3 (by omega)).up B4 (by omega)).up B5 (by omega)
  have F2 := ((K2.up B3 (by omega)).up B4 (by omega)).up B5 (by omega)
  have F3 := (K3.up B4 (by omega)).up B5 (by omega)
  have F4 := K4.up B5 (by omega)
  have HB := Lib.hid (show Below w.heap.size w w5 from B1.trans ((B2.mono (by omega)).trans ((B3.mono (by omega)).trans ((B4.mono (by omega)).trans (B5.mono (by omega))))))
  obtain ⟨y1, _⟩ := K1 1 (by simp)
  simp only [List.getElem_cons_zero, List.getElem_cons_succ] at y1
  have HP := Lib.hid (show RulesPost w f (.returned (.slice (some ⟨w.heap.size + 4, 0, none⟩) 4 4)) w5 from by
    refine ⟨w.heap.size + 4, [⟨66, #[], 67, #[.pointer (some ⟨w.heap.size, 0, none⟩)]⟩, ⟨69, #[], 80, #[.pointer (some ⟨w.heap.size + 1, 0, none⟩)]⟩, ⟨71, #[], 80, #[.pointer (some ⟨w.heap.size + 2, 0, none⟩)]⟩, ⟨72, #[], 80, #[.pointer (some ⟨w.heap.size + 3, 0, none⟩)]⟩], rfl, ?_, ⟨rfl, fun i h1 h2 => ?_⟩, HB.out⟩
    · exact (CellsAt.rnR (l := [_, _, _, _]) (base := w.heap.size) K5 (by omega) (by omega)).rl
    have h4 : i = 0 ∨ i = 1 ∨ i = 2 ∨ i = 3 := by simp at h1; omega
    rcases h4 with rfl | rfl | rfl | rfl
    · refine ⟨by intro args W; rfl, by intro args W; rfl, fun W' hb a b ha hb2 => ⟨isLater_u a b W', ?_⟩⟩
      exact rules1_u a b f w.heap.size x1 c1 W' ((F1.up hb (by omega)) 0 (by simp)).1 (hdr.below (HB.out.trans (hb.mono HB.out.size))) hfl ha.1 hb2.1 ha.2
    · refine ⟨by intro args W; rfl, by intro args W; rfl, fun W' hb a b ha hb2 => ⟨isMessage_u a b W', ?_⟩⟩
      exact atLeast1_u a b f.lat (w.heap.size + 1) W' ((F2.up hb (by omega)) 0 (by simp)).1
    · refine ⟨by intro args W; rfl, by intro args W; rfl, fun W' hb a b ha hb2 => ⟨isGrant_u a b ?_ ?_ W', ?_⟩⟩
      · have := (evB_of ha.1).2.2.2.2.2.2; omega
      · have := (evB_of ha.1).2.2.2.2.2.2; omega
      · exact atLeast1_u a b 0 (w.heap.size + 2) W' ((F3.up hb (by omega)) 0 (by simp)).1
    · refine ⟨by intro args W; rfl, by intro args W; rfl, fun W' hb a b ha hb2 => ⟨isChild_u a b W', ?_⟩⟩
      exact atLeast1_u a b 0 (w.heap.size + 3) W' ((F4.up hb (by omega)) 0 (by simp)).1)
  clear F1 F2 F3 F4 K1 K2 K3 K4 K5 B1 B2 B3 B4 B5 HB hdr
  go_enter Tryd.func45, Tryd.ntmps45
  go_wp2_with (first | (go_at_call 70; refine (atLeast_u _ _).mono ?_; rintro e z ⟨rfl, hz⟩; (first | rw [V2] at hz | rw [V3] at hz | rw [V4] at hz); subst hz))
  go_ret
  exact HP.out
end Go.Proofs.YtifdcfjllonmgaaDoor
