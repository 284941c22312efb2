/-
  Layer 8: what ClockFound asks, plain; its walk.
-/
import Derived.Test.YtckajmdghafbeaaDoorE01
import Derived.Test.YtckajmdghafbeaaDoorE02
import Derived.Test.YtckajmdghafbeaaDoorK09
import Derived.Test.YtckajmdghafbeaaDoorK10
import Derived.Deep.RegionHeld3
import Derived.Lib.QuietBelow
import Derived.Deep.DeepCutAuto
import Derived.WalkKit
import Derived.WalkLawsBesides
import Derived.Outline
import Derived.Lib.Hide
import Derived.Below
import Derived.BigQuiet
import Derived.Deep.QuietTactic
import Derived.Laws.Rows
import Derived.Laws.OwnMore
import Derived.OwnWalk
import Derived.StillTail
import Derived.Sort.CutIn
import Derived.RangeFuncNested
import Derived.RangeFuncBound
import Derived.RangeFuncCalls
import Derived.RangeFuncLeaves
import Derived.RangeFuncFrom
import Derived.RangeFuncRecord
import Derived.OwnWalkIn
import Derived.TacticsInMore
import Derived.LoopNIn
import Derived.LoopIn
import Derived.TacticsIn
import Derived.OrdersIn
import Derived.Maps.Own
import Derived.Maps.OwnOps
import Derived.Laws.StructEq
import Derived.Laws.Bits128
namespace Go.Proofs.YtckajmdghafbeaaDoor
open Go Go.Proofs Go.RowKit Go.Lib

/-- An event without what it says about others. -/
def plainE (e : Ev) : Ev := { e with kd := 2, lk := 0, gn := 0, op := 0, vr := 0, pe := 0 }
theorem plain_good {e : Ev} (h : evB e = true) : evB (plainE e) = true := by
  obtain ⟨ag, sq, tm, kd, tr, sp, lk, gn, op, vr, pe, bt⟩ := e
  unfold evB at h ⊢
  unfold plainE
  dsimp only at h ⊢
  rw [Bool.and_eq_true] at h ⊢
  exact ⟨h.1, rfl⟩
theorem plain_get {l : List Ev} {i : Nat} (h : i < l.length) : evD (l.map plainE) i = plainE (evD l i) := by
  rw [evD_of (by simpa using h), evD_of h]
  simp
theorem plain_evs {f : Fl} {l : List Ev} (h : EvsOk f l) : EvsOk f (l.map plainE) := by
  refine ⟨h.1, by simpa using h.2.1, fun i hi => ?_⟩
  rw [List.length_map] at hi
  obtain ⟨s1, s2, s3, s4, s5⟩ := h.2.2 i hi
  unfold StepOk
  rw [plain_get hi, plain_get (show 0 < l.length by omega)]
  refine ⟨plain_good s1, s2, s3, fun k => absurd k.1 (show ¬ (2 : Int) = 1 by decide), fun h0 => ?_⟩
  rw [plain_get (show i - 1 < l.length by omega)]
  exact s5 h0
/-- How many events are an agent's own. -/
def ownN (l : List Ev) (a : Int) (k : Nat) : Nat := (l.take k).countP fun e => e.ag == a
theorem ownN_step (l : List Ev) (a : Int) (k : Nat) (h : k < l.length) : ownN l a (k + 1) = ownN l a k + if l[k].ag = a then 1 else 0 := by
  unfold ownN
  rw [List.take_succ_eq_append_getElem h, List.countP_append]
  simp [List.countP_cons]
theorem fdAn_len (l : List Ev) (x : List Int) (a : Int) : (fdAn l x a).length = ownN l a l.length := by
  unfold fdAn ownN
  rw [List.length_map, List.take_length]
  have key : ∀ k, k ≤ l.length → ((List.range k).filter fun i => (evD l i).ag == a).length = (l.take k).countP fun e => e.ag == a := by
    intro k
    induction k with
    | zero => intro _; simp
    | succ k ih =>
      intro hk
      rw [List.range_succ, List.filter_append, List.length_append, ih (by omega), List.take_succ_eq_append_getElem (by omega), List.countP_append]
      congr 1
      by_cases h : l[k].ag = a
      · simp [h, evD_of (by omega : k < l.length)]
      · simp [h, evD_of (by omega : k < l.length)]
  have := key l.length (Nat.le_refl _)
  rw [List.take_length] at this
  exact this
theorem ownN_le (l : List Ev) (a : Int) : ownN l a l.length ≤ l.length := by
  unfold ownN
  rw [List.take_length]
  exact List.countP_le_length
theorem fd_ck {f : Fl} {l : List Ev} (h : EvsOk f l) {x : List Int} (hx : ∀ i, -1000000000000 ≤ xD x i ∧ xD x i ≤ 1000000000000) {a : Int} (a0 : 0 ≤ a) (a1 : a < (f.dr.length : Int)) : ckB (fdC f l x a) = true ↔ 0 < ownN l a l.length := by
  have hl := fdAn_len l x a
  have hd := drOf_bd h.1 a0 a1
  have hle := ownN_le l a
  constructor
  · intro hc
    have := (ckB_of hc).2.2.2
    have h2 : (fdAn l x a).length ≠ 0 := fun e => this (List.length_eq_zero_iff.1 e)
    omega
  · intro hpos
    have hall : (fdAn l x a).all anB = true := by
      rw [List.all_eq_true]
      intro y hy
      unfold fdAn at hy
      obtain ⟨i, hi, rfl⟩ := List.mem_map.1 hy
      have hi2 := List.mem_range.1 (List.mem_filter.1 hi).1
      have hb := hx i
      have he := (evB_of (h.2.2 i hi2).1).2.2.1
      unfold anB
      rw [inB_yes (show 0 ≤ (evD l i).tm + 1 by omega) (show (evD l i).tm + 1 ≤ 1000001 by omega), inB_yes (show -17592186044416 ≤ xD x i + 1 by omega) (show xD x i + 1 ≤ 17592186044416 by omega)]
      rfl
    have h24 := h.2.1
    unfold ckB fdC
    dsimp only
    rw [hall, inB_yes hd.1 hd.2, inB_yes (show 1 ≤ ((fdAn l x a).length : Int) by omega) (show ((fdAn l x a).length : Int) ≤ 24 by omega)]
    rfl
theorem plain_fol (a b : Ev) : folB (plainE a) (plainE b) = false := by
  cases h : folB (plainE a) (plainE b) with
  | false => rfl
  | true =>
    rw [folB_iff] at h
    dsimp only [plainE] at h
    omega
theorem fd_agree {f : Fl} {l : List Ev} (h : EvsOk f l) {x : List Int} (ht : timesB l.length x = true) (hx : ∀ i, -1000000000000 ≤ xD x i ∧ xD x i ≤ 1000000000000) {a : Int} (a0 : 0 ≤ a) (a1 : a < (f.dr.length : Int)) :
    fdB f l x a = true ↔ agB f (l.map plainE) x ((2 : Int) ^ a.toNat) = true ∧ 0 < ownN l a l.length := by
  have h6 := (flB_of h.1).1
  have hag : ∀ i, i < l.length → 0 ≤ (evD l i).ag ∧ (evD l i).ag ≤ 5 := fun i hi => (evB_of (h.2.2 i hi).1).1
  constructor
  · intro hb
    obtain ⟨_, _, _, _, hc, hp⟩ := of_fdB hb
    refine ⟨agB_yes ⟨evsB_yes (plain_evs h), by rw [List.length_map]; exact ht, fun i j hi hj => ?_⟩, (fd_ck h hx a0 a1).1 hc⟩
    rw [List.length_map] at hi hj
    unfold PairOk
    rw [plain_get hi, plain_get hj]
    have gi := hag i hi; have gj := hag j hj
    have ei : belB ((2 : Int) ^ a.toNat) (plainE (evD l i)).ag = decide ((evD l i).ag = a) := bel_pow a0 (by omega) gi.1 gi.2
    have ej : belB ((2 : Int) ^ a.toNat) (plainE (evD l j)).ag = decide ((evD l j).ag = a) := bel_pow a0 (by omega) gj.1 gj.2
    rw [ei, ej, plain_fol]
    by_cases hai : (evD l i).ag = a
    · by_cases haj : (evD l j).ag = a
      · refine .inr (.inr (.inr ⟨fun _ hij => ?_, fun hf => by cases hf⟩))
        have := hp i j hij hj hai haj
        show shB (f.drOf (evD l i).ag) ((evD l j).tm - (evD l i).tm) (xD x i) (xD x j) = true
        rw [hai]
        exact this
      · exact .inr (.inr (.inl (decide_eq_false haj)))
    · exact .inr (.inl (decide_eq_false hai))
  · rintro ⟨hb, hpos⟩
    obtain ⟨_, _, hp⟩ := of_agB hb
    refine fdB_yes ⟨evsB_yes h, ht, a0, a1, (fd_ck h hx a0 a1).2 hpos, fun i j hij hj hai haj => ?_⟩
    have hi : i < l.length := by omega
    have := hp i j (by rw [List.length_map]; exact hi) (by rw [List.length_map]; exact hj)
    unfold PairOk at this
    rw [plain_get hi, plain_get hj] at this
    have gi := hag i hi; have gj := hag j hj
    have ei : belB ((2 : Int) ^ a.toNat) (plainE (evD l i)).ag = decide ((evD l i).ag = a) := bel_pow a0 (by omega) gi.1 gi.2
    have ej : belB ((2 : Int) ^ a.toNat) (plainE (evD l j)).ag = decide ((evD l j).ag = a) := bel_pow a0 (by omega) gj.1 gj.2
    rw [ei, ej] at this
    rcases this with h1 | h1 | h1 | h1
    · omega
    · exact absurd hai (of_decide_eq_false h1)
    · exact absurd haj (of_decide_eq_false h1)
    · have h2 := h1.1 (show (evD l i).ag = (evD l j).ag by rw [hai, haj]) hij
      have h2 : shB (f.drOf (evD l i).ag) ((evD l j).tm - (evD l i).tm) (xD x i) (xD x j) = true := h2
      rw [hai] at h2
      exact h2
/-- The clock shows the readings of the agent's events. -/
theorem fd_read {f : Fl} {l : List Ev} {x : List Int} {a : Int} (h : FdOk f l x a) {i : Nat} (hi : i < l.length) (hai : (evD l i).ag = a) : IsRead (fdC f l x a) (xD x i) (evD l i).tm := by
  obtain ⟨he, _, a0, a1, hc, hp⟩ := h
  have hev := of_evsB he
  have hd := drOf_bd hev.1 a0 a1
  have hne := (ckB_of hc).2.2.2
  have hmem : (⟨(evD l i).tm + 1, xD x i + 1⟩ : An) ∈ fdAn l x a := List.mem_map.2 ⟨i, List.mem_filter.2 ⟨List.mem_range.2 hi, by rw [hai]; exact beq_self_eq_true a⟩, rfl⟩
  have hcd : (fdC f l x a).dr = f.drOf a := rfl
  have hca : (fdC f l x a).an = fdAn l x a := rfl
  unfold IsRead
  rw [hcd, hca]
  rw [hca] at hne
  generalize f.drOf a = dr at *
  constructor
  · obtain ⟨b, hb, e⟩ := begN_mem dr (evD l i).tm (fdAn l x a) hne
    rw [e]
    unfold fdAn at hb
    obtain ⟨k, hk, rfl⟩ := List.mem_map.1 hb
    obtain ⟨hk1, hk2⟩ := List.mem_filter.1 hk
    have hkl := List.mem_range.1 hk1
    have hka : (evD l k).ag = a := by simpa using hk2
    unfold begA
    dsimp only
    obtain ⟨d, hdd⟩ : ∃ d : Int, d = (evD l i).tm - (evD l k).tm := ⟨_, rfl⟩
    have e1 : (evD l i).tm - ((evD l k).tm + 1) = d - 1 := by omega
    rw [e1]
    rcases Nat.lt_trichotomy k i with hki | hki | hki
    · have hs := (sh_eq (d := (evD l i).tm - (evD l k).tm) (s := xD x k) (t := xD x i) hd.2).1 (hp k i hki hi hka hai)
      rw [← hdd] at hs
      unfold low8 at hs
      split
      · rename_i hlt
        rw [if_neg (show ¬ 1 ≤ d by omega)] at hs
        have h2 : (d - 1) * (1000000 + dr) ≤ (-1) * (1000000 + dr) := Int.mul_le_mul_of_nonneg_right (by omega) (by omega)
        omega
      · rename_i hlt
        rw [if_pos (show 1 ≤ d by omega)] at hs
        omega
    · subst hki
      have h0 : d = 0 := by omega
      subst h0
      rw [if_pos (show (evD l k).tm < (evD l k).tm + 1 by omega)]
      omega
    · have hs := (sh_eq (d := (evD l k).tm - (evD l i).tm) (s := xD x i) (t := xD x k) hd.2).1 (hp i k hki hkl hai hka)
      have e2 : (evD l k).tm - (evD l i).tm = -d := by omega
      rw [e2] at hs
      have hge : 0 ≤ xD x k - xD x i := by
        have h1 := hs.1
        unfold low8 at h1
        split at h1
        · rename_i h1d
          have : 0 ≤ (-d - 1) * (1000000 - dr) := Int.mul_nonneg (by omega) (by omega)
          omega
        · exact h1
      have e3 : (-d + 1) * (1000000 + dr) = -((d - 1) * (1000000 + dr)) := by
        rw [show -d + 1 = -(d - 1) by omega, Int.neg_mul]
      rw [e3] at hs
      split
      · omega
      · rename_i hlt
        have h2 : 0 ≤ (d - 1) * (1000000 + dr) := Int.mul_nonneg (by omega) (by omega)
        omega
  · have h1 := begN_ge dr ((evD l i).tm + 1) (fdAn l x a) _ hmem
    unfold begA at h1
    dsimp only at h1
    rw [if_neg (by omega), show (evD l i).tm + 1 - ((evD l i).tm + 1) = 0 by omega, Int.zero_mul] at h1
    omega
theorem fd_reading {f : Fl} {l : List Ev} {x : List Int} {a : Int} (h : FdOk f l x a) (i : Nat) : readE (fdC f l x a) (xD x i) = 0 ∧ (i < l.length → (evD l i).ag = a → readV (fdC f l x a) (xD x i) = (evD l i).tm) := by
  have hb := (timesB_of h.2.1).1 i
  have hr := readB_yes h.2.2.2.2.1 hb.1 hb.2
  exact ⟨readE_yes hr, fun hi ha => readV_of hr (fd_read h hi ha)⟩
end Go.Proofs.YtckajmdghafbeaaDoor

namespace Go.Proofs.YtckajmdghafbeaaDoor
open Go Go.Proofs Go.RowKit Go.Lib Go.Sort

def FindOk8 (f : FuncId) : Prop := ∀ (v : Value) (x : Fl) (ad ad2 : Option Addr) (c c2 : Nat) (l : List Ev) (y : List Int) (a : Int) (w : World), x.fit → l.length ≤ maxLen → y.length ≤ maxLen → evsW l → Rdy w → FlAt w v x → RL KE w ad l → RL KI w ad2 y → Calls Tryd.prog f #[v, .slice ad l.length c, .slice ad2 y.length c2, .int .i64 a] w (FindPost w (fdV x l y a) (fdE x l y a))
def ValidClockOk8 (f : FuncId) : Prop := ∀ (v : Value) (x : Cl) (w : World), CkAt w v x → x.an.length ≤ maxLen → Calls Tryd.prog f #[v] w fun e w' => e = .returned (.bool (ckB x)) ∧ Below w.heap.size w w'
theorem CellsAt.ev8 {W : World} {base g n c : Nat} {l : List Ev} (h : Own KE W base (.slice (some ⟨g, 0, none⟩) n c) l) (k : Nat) (hk : k < l.length) : EvCells W g (12 * k) l[k] ∧ ∀ j, j < 12 → W.frozen? ⟨g, 12 * k + j, none⟩ = false := by
  have hc := fun j (hj : j < 12) => h.cell k hk j hj
  exact ⟨⟨(hc 0 (by decide)).1, (hc 1 (by decide)).1, (hc 2 (by decide)).1, (hc 3 (by decide)).1, (hc 4 (by decide)).1, (hc 5 (by decide)).1, (hc 6 (by decide)).1, (hc 7 (by decide)).1, (hc 8 (by decide)).1, (hc 9 (by decide)).1, (hc 10 (by decide)).1, (hc 11 (by decide)).1⟩, fun j hj => (hc j hj).2⟩
noncomputable def plK (l : List Ev) (k : Nat) : List Ev := (l.take k).map plainE ++ l.drop k
theorem own_put_ev {W : World} {base g n c : Nat} {l : List Ev} (h : Own KE W base (.slice (some ⟨g, 0, none⟩) n c) l) (k : Nat) (hk : k < l.length) (x : Ev) (hx : l[k] = x) (j : Nat) (hj : j < 12) (y : Ev) (u : Value) (hy : KE.cs y = (KE.cs x).set j u) : Own KE (W.setCell ⟨g, 12 * k + j, none⟩ u) base (.slice (some ⟨g, 0, none⟩) n c) (l.set k y) := (h.put k hk j hj y u (by rw [hx]; exact hy)).1
theorem own_plain {W : World} {base g n c : Nat} {l : List Ev} (h : Own KE W base (.slice (some ⟨g, 0, none⟩) n c) l) (k : Nat) (hk : k < l.length) (x : Ev) (hx : l[k] = x) :
    Own KE ((((((W.setCell ⟨g, 12 * k + 3, none⟩ (.int .i64 2)).setCell ⟨g, 12 * k + 6, none⟩ (.int .i64 0)).setCell ⟨g, 12 * k + 7, none⟩ (.int .i64 0)).setCell ⟨g, 12 * k + 8, none⟩ (.int .i64 0)).setCell ⟨g, 12 * k + 9, none⟩ (.int .i64 0)).setCell ⟨g, 12 * k + 10, none⟩ (.int .i64 0)) base (.slice (some ⟨g, 0, none⟩) n c) (l.set k (plainE x)) := by
  have e1 := own_put_ev h k hk x hx 3 (by decide) { x with kd := 2 } (.int .i64 2) rfl
  have e2 := own_put_ev e1 k (by simpa using hk) _ (List.getElem_set_self ..) 6 (by decide) { x with kd := 2, lk := 0 } (.int .i64 0) rfl
  rw [List.set_set] at e2
  have e3 := own_put_ev e2 k (by simpa using hk) _ (List.getElem_set_self ..) 7 (by decide) { x with kd := 2, lk := 0, gn := 0 } (.int .i64 0) rfl
  rw [List.set_set] at e3
  have e4 := own_put_ev e3 k (by simpa using hk) _ (List.getElem_set_self ..) 8 (by decide) { x with kd := 2, lk := 0, gn := 0, op := 0 } (.int .i64 0) rfl
  rw [List.set_set] at e4
  have e5 := own_put_ev e4 k (by simpa using hk) _ (List.getElem_set_self ..) 9 (by decide) { x with kd := 2, lk := 0, gn := 0, op := 0, vr := 0 } (.int .i64 0) rfl
  rw [List.set_set] at e5
  have e6 := own_put_ev e5 k (by simpa using hk) _ (List.getElem_set_self ..) 10 (by decide) (plainE x) (.int .i64 0) rfl
  rw [List.set_set] at e6
  exact e6
theorem below_up9j {w9 wi wj : World} (h : Below w9.heap.size w9 wi) (h2 : Below wi.heap.size wi wj) : Below w9.heap.size w9 wj := below_up8 h h2
theorem plK_zero (l : List Ev) : plK l 0 = l := by unfold plK; simp
theorem plK_all (l : List Ev) : plK l l.length = l.map plainE := by unfold plK; simp
theorem plK_len (l : List Ev) (k : Nat) (hk : k ≤ l.length) : (plK l k).length = l.length := by unfold plK; simp; omega
theorem plK_get (l : List Ev) (k : Nat) (hk : k < l.length) : (plK l k)[k]'(by rw [plK_len l k (by omega)]; exact hk) = l[k] := by
  unfold plK
  rw [List.getElem_append_right (by simp; omega)]
  simp [Nat.min_eq_left (Nat.le_of_lt hk)]
theorem plK_step (l : List Ev) (k : Nat) (hk : k < l.length) : plK l (k + 1) = (plK l k).set k (plainE l[k]) := by
  have hl : ((l.take k).map plainE).length = k := by simp; omega
  unfold plK
  rw [List.drop_eq_getElem_cons hk, List.set_append_right _ _ (by rw [hl]; exact Nat.le_refl _), hl, Nat.sub_self, List.set_cons_zero, List.take_succ_eq_append_getElem hk, List.map_append, List.append_assoc]
  rfl
set_option maxRecDepth 100000 in
set_option maxHeartbeats 16000000 in
theorem found_any (HSA : SaneOk 10) (HFI : FindOk8 31) (HVC : ValidClockOk8 29) (HRD : ReadingOk 27) (HAG : AgreesOk8 21) (n : Int) (ad : Option Addr) (c : Nat) (l : List D4) (b0 b1 b2 : Int) (ad2 : Option Addr) (c2 : Nat) (by_ : List Int) (agent : Int) (h0 : -9223372036854775808 ≤ n) (h1 : n ≤ 9223372036854775807) (hl : l.length ≤ maxLen) (hdi : ∀ d ∈ l, d.fit)
    (p0 : -9223372036854775808 ≤ b0) (p1 : b0 ≤ 9223372036854775807) (q0 : -9223372036854775808 ≤ b1) (q1 : b1 ≤ 9223372036854775807) (r0 : -9223372036854775808 ≤ b2) (r1 : b2 ≤ 9223372036854775807) (hby : by_.length ≤ maxLen) (hbc : by_.length ≤ c2) (hbb : ∀ i (h : i < by_.length), -9223372036854775808 ≤ by_[i] ∧ by_[i] ≤ 9223372036854775807) (m0 : -9223372036854775808 ≤ agent) (m1 : agent ≤ 9223372036854775807) (w : World) (hR : Rdy w) (hI : RL KD w ad l) (hJ : RL KI w ad2 by_) :
    Calls Tryd.prog 7 #[.int .i64 n, .slice ad l.length c, .agg #[.int .i64 b0, .int .i64 b1, .int .i64 b2], .slice ad2 by_.length c2, .int .i64 agent] w fun e w' => e = .returned (.bool true) ∧ Below w.heap.size w w' := by
  have HRY := Lib.hid (fun W (b : Below w.heap.size w W) => hR.below b)
  have HII := Lib.hid (fun W (b : Below w.heap.size w W) => hI.below b)
  have HJJ := Lib.hid (fun W (b : Below w.heap.size w W) => hJ.below b)
  have HEX := Lib.hid (fun W hW => exampleR_any n ad c l h0 h1 hl hdi W hW)
  have HLN := Lib.hid (ex_ok n l).1
  have HXT := Lib.hid (ex_times n l)
  have HBT := Lib.hid (And.intro (And.intro p0 p1) (And.intro (And.intro q0 q1) (And.intro r0 r1)))
  have HTM := Lib.hid (fun h hh => ((ex_ok n l).2.1 h hh).t0)
  have HZ1 := Lib.hid (evs_of (ex_hs n l))
  have HZ2 := Lib.hid (bent_evs n l b0 b1 b2)
  have HMV := Lib.hid (fun b hb k hk => mv_times n l b hb k hk)
  have HPK := Lib.hid (fun W => pickL8_any agent ((fleetN n).dr.length : Nat) m0 m1 (by rw [fleetN_len]; have := agN_bd n; omega) (by rw [fleetN_len]; have := agN_bd n; omega) W)
  have HFL := Lib.hid (show 2 ≤ (fleetN n).dr.length ∧ (fleetN n).dr.length ≤ 4 from by rw [fleetN_len]; exact agN_bd n)
  obtain ⟨kb, hkb⟩ : ∃ kb, kb = (by_.take 4).length := ⟨_, rfl⟩
  have HKB := Lib.hid (And.intro hkb (And.intro hby hbc))
  have HBB := Lib.hid (fun (b : Int) (hb : b ∈ by_.take 4) => show -9223372036854775808 ≤ b ∧ b ≤ 9223372036854775807 from by
    obtain ⟨i, hi, rfl⟩ := List.getElem_of_mem (List.mem_of_mem_take hb)
    exact hbb i hi)
  have hkc : kb ≤ c2 := by rw [hkb, List.length_take]; omega
  have hkl : kb = if by_.length < 4 then by_.length else 4 := by rw [hkb, take_len8]
  have HKL := Lib.hid hkl
  have HKC := Lib.hid hkc
  obtain ⟨w1, V1, Z1, K1, B1⟩ := lay8 w [.int .i64 b0, .int .i64 b1, .int .i64 b2] 27
  have V1 := (show w.alloc (.cells #[.int .i64 b0, .int .i64 b1, .int .i64 b2] 27) = w1 from V1)
  have HK1 := Lib.hid K1
  have HB1 := Lib.hid B1
  have HSA1 := HSA w1 (hR.below B1)
  clear HSA hR hI hJ hdi K1 B1 Z1 hkb hkc hkl hbb p0 p1 q0 q1 r0 r1 hby hbc
  go_enter Tryd.func7, Tryd.ntmps7
  go_wp2_with fail
  refine HSA1.mono ?_
  rintro e w2 ⟨rfl, hb⟩
  have HK2 := Lib.hid (HK1.out.below hb)
  have HB2 := Lib.hid (below_up8 HB1.out hb)
  clear hb HSA1 HK1 HB1 V1
  go_wp2_with fail
  refine (HEX.out _ (HII.out _ HB2.out)).mono ?_
  rintro e w3 ⟨x1, k1, x2, k2, x3, k3, a4, c4, a5, c5, rfl, s1, s2, s3, hn4, hn5, s4, s5, hb⟩
  have HK3 := Lib.hid (HK2.out.below hb)
  have HB3 := Lib.hid (below_up8 HB2.out hb)
  clear hb HB2 HK2 HEX HII
  obtain ⟨f, hf⟩ : ∃ f, f = fleetN n := ⟨_, rfl⟩
  have HFT := Lib.hid (show f.fit from by rw [hf]; exact fleet_fit n)
  rw [← hf] at s1 s2 s3 HZ1 HZ2 HPK HFL ⊢
  clear hf
  obtain ⟨hs, hhs⟩ : ∃ hs, hs = exN n l := ⟨_, rfl⟩
  rw [← hhs] at s4 s5 HLN HXT HTM HZ1 HZ2 HMV ⊢
  clear hhs
  have HR := Lib.hid (show FlAt w3 (.agg #[.slice x1 f.dr.length k1, .int .i64 f.lat, .int .i64 f.lia, .slice x2 f.sv.length k2, .slice x3 f.tm.length k3]) f ∧ RL KE w3 a4 (hs.map (·.e)) ∧ RL KI w3 a5 (hs.map (·.t)) ∧ (a4 = none → c4 = 0) ∧ (a5 = none → c5 = 0) from ⟨⟨x1, k1, x2, k2, x3, k3, rfl, s1.rl, s2.rl, s3.rl⟩, s4.rl, s5.rl, hn4, hn5⟩)
  have HDR := Lib.hid s1.rl
  clear s1 s2 s3 s4 s5 hn4 hn5
  obtain ⟨w4, V4, Z4, K4, B4⟩ := lay8 w3 [.slice x1 f.dr.length k1, .int .i64 f.lat, .int .i64 f.lia, .slice x2 f.sv.length k2, .slice x3 f.tm.length k3] 24
  have V4 := (show w3.alloc (.cells #[.slice x1 f.dr.length k1, .int .i64 f.lat, .int .i64 f.lia, .slice x2 f.sv.length k2, .slice x3 f.tm.length k3] 24) = w4 from V4)
  go_upto_region 3 with fail
  clear V4
  have HKF := Lib.hid K4
  have HKB4 := Lib.hid (HK3.out.below B4)
  have HB34 := Lib.hid B4
  have hz34 : w3.heap.size < w4.heap.size := by omega
  clear K4 B4 Z4 HK3
  generalize w3.heap.size = Q at HKF ⊢
  have HB24 := Lib.hid (show Below w.heap.size w w4 from below_up8 HB3.out HB34.out)
  obtain ⟨X, hX⟩ : ∃ X, X = mvN (hs.map (·.t)) (by_.take 4) := ⟨_, rfl⟩
  have HXL := Lib.hid (show X.length = hs.length from by rw [hX, mvN_len, List.length_map])
  have HXB := Lib.hid (show ∀ i, -200000000000 ≤ X.getD i 0 ∧ X.getD i 0 ≤ 200000000000 from fun i => by
    have := mvN_bd (by_.take 4) (hs.map (·.t)) 160000000000 HXT.out i
    have h6 : (by_.take 4).length ≤ 4 := by rw [List.length_take]; omega
    rw [hX]; omega)
  have HXM := Lib.hid (show ∀ k, k = hs.length → timesB k X = true from fun k hk => by rw [hX]; exact HMV.out _ (by rw [List.length_take]; omega) k hk)
  have HMO := Lib.hid (show Calls Tryd.prog 33 #[.slice a5 hs.length c5, .slice ad2 kb c2] w4 (fun e w' => ∃ xad xc, e = .returned (.slice xad hs.length xc) ∧ hs.length ≤ xc ∧ Own KI w' w4.heap.size (.slice xad hs.length xc) X ∧ Below w4.heap.size w4 w') from by
    have h := moved_any a5 ad2 c5 c2 (hs.map (·.t)) (by_.take 4) (by rw [List.length_map]; have := HLN.out; omega) (by rw [List.length_take]; omega) HR.out.2.2.2.2 HBB.out (fun i => by have := HXT.out i; omega) w4 (HR.out.2.2.1.below HB34.out) ((HJJ.out _ HB24.out).take8 4)
    rw [List.length_map, ← HKB.out.1] at h
    refine h.mono fun e w' h => ?_
    obtain ⟨xad, xc, e1, e2, e3, e4⟩ := h
    rw [mvN_len, List.length_map] at e1 e2
    rw [mvN_len, List.length_map, ← hX] at e3
    exact ⟨xad, xc, e1, e2, e3, e4⟩)
  clear hX HMV HXT HBB HJJ
  go_cut [15] from 36 to 42 (fun s15 wx => ∃ xad xc, s15 = .slice xad hs.length xc ∧ Hid (Own KI wx w4.heap.size (.slice xad hs.length xc) X) ∧ Hid (Below w4.heap.size w4 wx))
  case first =>
    have hkc := HKC.out
    have hbc := HKB.out.2.2
    by_cases h6 : by_.length ≤ 4
    · have HMO := Lib.hid (show Calls Tryd.prog 33 #[.slice a5 hs.length c5, .slice ad2 by_.length c2] w4 (fun e w' => ∃ xad xc, e = .returned (.slice xad hs.length xc) ∧ hs.length ≤ xc ∧ Own KI w' w4.heap.size (.slice xad hs.length xc) X ∧ Below w4.heap.size w4 w') from by
        have h := HMO.out
        rw [show kb = by_.length from by rw [HKL.out]; split <;> omega] at h
        exact h)
      go_wp2_with fail
      refine HMO.out.mono ?_
      rintro e wx ⟨xad, xc, rfl, _, ho, hb⟩
      have HO := Lib.hid ho
      have HB := Lib.hid hb
      clear ho hb
      go_wp2_with fail
      go_meet
      exact ⟨xad, xc, rfl, HO, HB⟩
    · have HMO := Lib.hid (show Calls Tryd.prog 33 #[.slice a5 hs.length c5, .slice ad2 4 c2] w4 (fun e w' => ∃ xad xc, e = .returned (.slice xad hs.length xc) ∧ hs.length ≤ xc ∧ Own KI w' w4.heap.size (.slice xad hs.length xc) X ∧ Below w4.heap.size w4 w') from by
        have h := HMO.out
        rw [show kb = 4 from by rw [HKL.out]; split <;> omega] at h
        exact h)
      have h62 : 4 ≤ c2 := by omega
      go_wp2_with fail
      refine HMO.out.mono ?_
      rintro e wx ⟨xad, xc, rfl, _, ho, hb⟩
      have HO := Lib.hid ho
      have HB := Lib.hid hb
      clear ho hb
      go_wp2_with fail
      go_meet
      exact ⟨xad, xc, rfl, HO, HB⟩
  case rest =>
    obtain ⟨xad, xc, rfl, HXO, HB45⟩ := hcut
    generalize wc = w5 at *
    have HXR := Lib.hid (show RL KI w5 xad X from by
      obtain ⟨_, _, e1, _, h⟩ := HXO.out.rn
      injection e1 with e1 e2 e3
      rw [e1]; exact h.rl)
    have HK5 := Lib.hid (HKB4.out.below HB45.out)
    have HKF5 := Lib.hid (HKF.out.below HB45.out)
    have HB35 := Lib.hid (below_up8 HB34.out HB45.out)
    clear HMO HKC HKL HKB HXO HKF HKB4
    have f0 := (show w5.cell? ⟨Q, 0, none⟩ = some (.slice x1 f.dr.length k1) from (HKF5.out 0 (by simp)).1)
    have ap0 := pick8_lo (c := agent) (n := (f.dr.length : Nat)) (by have := HFL.out; omega)
    have ap1 := pick8_hi (c := agent) (n := (f.dr.length : Nat)) (by have := HFL.out; omega)
    obtain ⟨ai, hai⟩ := Int.eq_ofNat_of_zero_le ap0
    rw [hai] at HPK ap1
    have HAI := Lib.hid (show ai < f.dr.length from by omega)
    clear hai ap0 ap1
    go_upto_region 5 with (go_at_call 26; refine (HPK.out _).mono ?_; rintro e z ⟨rfl, rfl⟩)
    clear f0
    have u0 := (show w5.cell? ⟨w.heap.size, 0, none⟩ = some (.int .i64 b0) from (HK5.out 0 (by simp)).1)
    have u1 := (show w5.cell? ⟨w.heap.size, 1, none⟩ = some (.int .i64 b1) from (HK5.out 1 (by simp)).1)
    have u2 := (show w5.cell? ⟨w.heap.size, 2, none⟩ = some (.int .i64 b2) from (HK5.out 2 (by simp)).1)
    have hlm : (hs.map (·.e)).length = hs.length := List.length_map ..
    have HBE := Lib.hid (show Calls Tryd.prog 13 #[.slice a4 hs.length c4, .int .i64 b0, .int .i64 b1, .int .i64 b2] w5 (fun e w' => ∃ zad zc, e = .returned (.slice zad hs.length zc) ∧ (zad = none → zc = 0) ∧ RL KE w' zad (bentN (hs.map (·.e)) b0 b1 b2) ∧ Below w5.heap.size w5 w') from by
      have h := bentR_any a4 c4 (hs.map (·.e)) b0 b1 b2 (by rw [hlm]; have := HLN.out; omega) HR.out.2.2.2.1 HBT.out.1.1 HBT.out.1.2 HBT.out.2.1.1 HBT.out.2.1.2 HBT.out.2.2.1 HBT.out.2.2.2 (fun e he => by
        obtain ⟨h, hh, rfl⟩ := List.mem_map.1 he
        have := HTM.out h hh
        omega) w5 (HR.out.2.1.below HB35.out)
      rw [hlm] at h
      refine h.mono fun e w' h => ?_
      obtain ⟨zad, zc, e1, _, e3, e4, e5⟩ := h
      rw [bent_len, hlm] at e1
      exact ⟨zad, zc, e1, e3, e4.rl, e5⟩)
    go_wp2_with fail
    refine HBE.out.mono ?_
    rintro e w6 ⟨zad, zc, rfl, hzn6, hz6, hb⟩
    have HZN := Lib.hid hzn6
    clear hzn6
    have HZR := Lib.hid hz6
    have HB36 := Lib.hid (below_up8 HB35.out hb)
    have HXR6 := Lib.hid (HXR.out.below hb)
    have HKF6 := Lib.hid (HKF5.out.below hb)
    clear u0 u1 u2 hz6 hb HBE HXR HKF5 HK5 HB35 HB45
    obtain ⟨w7, V7, Z7, K7, B7⟩ := lay8 w6 [.slice a4 hs.length c4, .slice zad hs.length zc] 25
    have V7 := (show w6.alloc (.cells #[.slice a4 hs.length c4, .slice zad hs.length zc] 25) = w7 from V7)
    go_wp2_with fail
    have HK7 := Lib.hid K7
    have HB37 := Lib.hid (below_up8 HB36.out B7)
    have HX7 := Lib.hid (show RL KI w7 xad X ∧ CellsAt w7 Q [.slice x1 f.dr.length k1, .int .i64 f.lat, .int .i64 f.lia, .slice x2 f.sv.length k2, .slice x3 f.tm.length k3] from ⟨HXR6.out.below B7, HKF6.out.below B7⟩)
    have HZA := Lib.hid (show ∀ W, Below w7.heap.size w7 W → RL KE W a4 (hs.map (·.e)) ∧ RL KE W zad (bentN (hs.map (·.e)) b0 b1 b2) from fun W b => ⟨HR.out.2.1.below (below_up8 HB37.out b), (HZR.out.below B7).below b⟩)
    clear K7 B7 V7 Z7 HXR6 HKF6 HZR
    generalize w6.heap.size = Z at HK7 ⊢
    go_loopw [59] (fun i wr => ∃ j : Nat, i = .int .i64 j ∧ j ≤ 2 ∧ Hid (Below w7.heap.size w7 wr)) (fun i _ => 2 - (RowKit.intOf i).toNat)
    case atStart => exact ⟨0, rfl, by decide, Lib.hid (Below.refl _ _)⟩
    case round =>
      obtain ⟨j, rfl, hj, HB⟩ := hrel
      have HBwr := Lib.hid (show Below w.heap.size w wr from below_up8 (below_up8 HB3.out HB37.out) HB.out)
      by_cases hlt : j < 2
      · have hji : (j : Int) < 2 := by omega
        have HLT := Lib.hid hlt
        have hzz : ∃ (zz : List Ev) (za : Option Addr) (zk : Nat), w7.cell? ⟨Z, j, none⟩ = some (.slice za hs.length zk) ∧ zz.length = hs.length ∧ EvsOk f zz ∧ (za = none → zk = 0) ∧ ∀ W, Below w7.heap.size w7 W → RL KE W za zz := by
          have hj2 : j = 0 ∨ j = 1 := by omega
          rcases hj2 with rfl | rfl
          · exact ⟨hs.map (·.e), a4, c4, (HK7.out 0 (by simp)).1, hlm, HZ1.out, HR.out.2.2.2.1, fun W b => (HZA.out W b).1⟩
          · exact ⟨bentN (hs.map (·.e)) b0 b1 b2, zad, zc, (HK7.out 1 (by simp)).1, by rw [bent_len, hlm], HZ2.out, HZN.out, fun W b => (HZA.out W b).2⟩
        obtain ⟨zz, za, zk, hzc, hzl, hze, hznn, hzr⟩ := hzz
        have HZM := Lib.hid hznn
        clear hznn
        have HZE := Lib.hid (And.intro hze (And.intro hzl hzr))
        have ixz := fun W => at_z8 Z 2 2 j hlt W
        have y0 := (show wr.cell? ⟨Z, j, none⟩ = some (.slice za hs.length zk) from (HB.out.cell (p := ⟨Z, j, none⟩) (World.block_lt_of_cell? w7 ⟨Z, j, none⟩ hzc)).trans hzc)
        have HKr := Lib.hid (HX7.out.2.below HB.out)
        have HXr := Lib.hid (HX7.out.1.below HB.out)
        have HB3r := Lib.hid (below_up8 HB37.out HB.out)
        have HXL := HXL
        have HFN := Lib.hid (show Calls Tryd.prog 31 #[.agg #[.slice x1 f.dr.length k1, .int .i64 f.lat, .int .i64 f.lia, .slice x2 f.sv.length k2, .slice x3 f.tm.length k3], .slice za hs.length zk, .slice xad hs.length xc, .int .i64 (ai : Int)] wr (FindPost wr (fdV f zz X (ai : Int)) (fdE f zz X (ai : Int))) from by
          have h := HFI _ f za xad zk xc zz X (ai : Int) wr HFT.out (by rw [hzl]; have := HLN.out; unfold maxLen; omega) (by rw [HXL.out]; have := HLN.out; unfold maxLen; omega) (wf_evs hze) (HRY.out _ HBwr.out) (HR.out.1.below HB3r.out) (hzr _ HB.out) (HXr.out)
          rw [hzl, HXL.out] at h
          exact h)
        clear hzc hzl hze hzr hlt
        have f0 := (show wr.cell? ⟨Q, 0, none⟩ = some (.slice x1 f.dr.length k1) from (HKr.out 0 (by simp)).1)
        have f1 := (show wr.cell? ⟨Q, 1, none⟩ = some (.int .i64 f.lat) from (HKr.out 1 (by simp)).1)
        have f2 := (show wr.cell? ⟨Q, 2, none⟩ = some (.int .i64 f.lia) from (HKr.out 2 (by simp)).1)
        have f3 := (show wr.cell? ⟨Q, 3, none⟩ = some (.slice x2 f.sv.length k2) from (HKr.out 3 (by simp)).1)
        have f4 := (show wr.cell? ⟨Q, 4, none⟩ = some (.slice x3 f.tm.length k3) from (HKr.out 4 (by simp)).1)
        go_wp2_with fail
        refine HFN.out.mono ?_
        rintro e w8 ⟨cad, ccp, rfl, hcl, hrc, hb⟩
        have HCP := Lib.hid (And.intro hcl hrc.rl)
        have HB8 := Lib.hid hb
        clear hcl hrc hb f0 f1 f2 f3 f4 y0 ixz HFN
        have HFA := Lib.hid (fd_agree HZE.out.1 (HXM.out zz.length HZE.out.2.1) (fun i => by have := HXB.out i; unfold xD; omega) (a := (ai : Int)) (by omega) (by have := HAI.out; omega))
        have HFR := Lib.hid (fun (h : fdB f zz X (ai : Int) = true) i => fd_reading (of_fdB h) i)
        have HFC := Lib.hid (fun (h : fdB f zz X (ai : Int) = true) => show fdV f zz X (ai : Int) = fdC f zz X (ai : Int) ∧ fdE f zz X (ai : Int) = 0 ∧ ckB (fdC f zz X (ai : Int)) = true from ⟨by unfold fdV; rw [if_pos h], by unfold fdE; rw [if_pos h], (of_fdB h).2.2.2.2.1⟩)
        have HFE := Lib.hid (fun (h : fdB f zz X (ai : Int) = false) => show fdE f zz X (ai : Int) = 80 from by unfold fdE; rw [if_neg (by rw [h]; decide)])
        have HPW := Lib.hid (wf_evs (plain_evs HZE.out.1))
        obtain ⟨CV, hCV⟩ : ∃ CV, CV = fdV f zz X (ai : Int) := ⟨_, rfl⟩
        obtain ⟨CE, hCE⟩ : ∃ CE, CE = fdE f zz X (ai : Int) := ⟨_, rfl⟩
        rw [← hCV] at HCP HFC ⊢
        rw [← hCE] at HFC HFE ⊢
        clear hCV hCE
        obtain ⟨w9, V9, Z9, K9, B9⟩ := lay8 w8 [.int .i64 CV.dr, .slice cad CV.an.length ccp] 50
        have V9 := (show w8.alloc (.cells #[.int .i64 CV.dr, .slice cad CV.an.length ccp] 50) = w9 from V9)
        obtain ⟨w10, V10, Z10, K10, B10⟩ := lay8 w9 [] 46
        rw [Z9] at Z10 K10 B10
        have HO10 := Lib.hid (show Own KE w10 w9.heap.size (.slice (some ⟨w8.heap.size + 1, 0, none⟩) 0 0) [] by rw [← V10, ← Z9]; exact KE.new w9 w9.heap.size [] (Nat.le_refl _) (by simp) [] rfl 46 rfl 0 rfl)
        have HR10 := Lib.hid ((HZE.out.2.2 w8 (below_up8 HB.out HB8.out)).below B9)
        have HR11 := Lib.hid (HR10.out.below (show Below w9.heap.size w9 w10 from by rw [Z9]; exact B10))
        have hz10 : w9.heap.size ≤ w10.heap.size := by omega
        have hzn := HZM.out
        have hzl := HZE.out.2.1
        go_upto_region 11 with (at_builtin; refine walk_arg8 KE rfl _ _ rfl w9.heap.size (.slice (some ⟨w8.heap.size + 1, 0, none⟩) 0 0) zz rfl HO10.out hz10 za zk (by rw [hzl]; rfl) HR11.out hzn (by rw [hzl]; have := HLN.out; omega) ?_; intro v11 w11 ho11 hb11)
        obtain ⟨pad, pcp, e11, _⟩ := ho11.form
        rw [hzl] at e11
        subst e11
        have HO11 := Lib.hid ho11
        have HB911 := Lib.hid (show Below w9.heap.size w9 w11 from (by rw [Z9]; exact B10 : Below w9.heap.size w9 w10).trans hb11)
        have HB89 := Lib.hid B9
        have HK9 := Lib.hid K9
        have HZ9 := Lib.hid Z9
        clear ho11 hb11 V9 V10 Z10 K10 B10 HO10 HR11 hz10 hzn hzl K9 B9 Z9
        generalize w8.heap.size = Y at HK9 ⊢
        go_wp2_with fail
        go_loopw [21, 23] (fun u i wi => ∃ k : Nat, i = .int .i64 k ∧ k ≤ hs.length ∧ u = .int .i64 ((ownN zz (ai : Int) k : Nat) : Int) ∧ Hid (Own KE wi w9.heap.size (.slice pad hs.length pcp) (plK zz k)) ∧ Hid (Below w9.heap.size w9 wi)) (fun _ i _ => hs.length - (RowKit.intOf i).toNat)
        case atStart => exact ⟨0, rfl, Nat.zero_le _, rfl, by rw [plK_zero]; exact HO11, HB911⟩
        case round =>
          clear HO11 HB911
          obtain ⟨k, rfl, hk, rfl, HOi, HBi⟩ := hrel
          generalize wr = wi at *
          have hln := HLN.out
          have hown : ownN zz (ai : Int) k ≤ hs.length := by
            have := List.countP_le_length (p := fun e : Ev => e.ag == (ai : Int)) (l := zz.take k)
            rw [List.length_take] at this
            unfold ownN
            have := HZE.out.2.1
            omega
          by_cases hlk : k < hs.length
          · have hkk : (k : Int) < (hs.length : Int) := by omega
            have HLK := Lib.hid hlk
            have hkz : k < zz.length := by rw [HZE.out.2.1]; exact hlk
            have hpl := plK_len zz k (by omega)
            obtain ⟨g, cg, eg, _, hgb, hgl⟩ := HOi.out.block (by omega)
            injection eg with e1 e2 e3
            subst e1 e3
            have hkp : k < (plK zz k).length := by omega
            obtain ⟨⟨t0, t1, t2, t3, t4, t5, t6, t7, t8, t9, t10, t11⟩, hfz⟩ := CellsAt.ev8 HOi.out k hkp
            have z3 := hfz 3 (by decide); have z6 := hfz 6 (by decide); have z7 := hfz 7 (by decide); have z8 := hfz 8 (by decide); have z9 := hfz 9 (by decide); have z10 := hfz 10 (by decide)
            have HPN := Lib.hid (own_plain HOi.out k hkp _ rfl)
            have hpg := plK_get zz k hkz
            have HPG := Lib.hid hpg
            have HST := Lib.hid (plK_step zz k hkz)
            have HOW := Lib.hid (ownN_step zz (ai : Int) k hkz)
            have ixg := (show ∀ W, (Instr.indexAt 25 (.slice (some ⟨g, 0, none⟩) hs.length pcp) (.int .i64 (k : Int))).run Tryd.prog W = .ok (.pointer (some ⟨g, 12 * k, none⟩)) W from fun W => by have := at_ev8 g 0 hs.length pcp k hlk W; rwa [Nat.zero_add] at this)
            obtain ⟨zb, zo, ez, hzb, hzc⟩ := (HZE.out.2.2 w9 (below_up8 (below_up8 HB.out HB8.out) HB89.out)).ev k hkz
            subst ez
            have ixz := fun W => at_ev8 zb zo hs.length zk k hlk W
            have HZC := Lib.hid (fun W (b : Below w9.heap.size w9 W) => show W.cell? ⟨zb, zo + 12 * k, none⟩ = some (.int .i64 (zz[k]'hkz).ag) from by
              have := (hzc W b).1
              exact this)
            generalize (plK zz k)[k]'hkp = pe at *
            clear hfz hpl hkp hpg e2 hzc hzb hlk
            go_upto_region 20 with fail
            clear t0 t1 t2 t3 t4 t5 t6 t7 t8 t9 t10 t11 z3 z6 z7 z8 z9 z10
            obtain ⟨wE, hwE⟩ : ∃ wE, wE = ((((((wi.setCell ⟨g, 12 * k + 3, none⟩ (.int .i64 2)).setCell ⟨g, 12 * k + 6, none⟩ (.int .i64 0)).setCell ⟨g, 12 * k + 7, none⟩ (.int .i64 0)).setCell ⟨g, 12 * k + 8, none⟩ (.int .i64 0)).setCell ⟨g, 12 * k + 9, none⟩ (.int .i64 0)).setCell ⟨g, 12 * k + 10, none⟩ (.int .i64 0)) := ⟨_, rfl⟩
            rw [← hwE]
            have HOE := Lib.hid (show Own KE wE w9.heap.size (.slice (some ⟨g, 0, none⟩) hs.length pcp) (plK zz (k + 1)) from by
              rw [hwE, HST.out, ← HPG.out]
              exact HPN.out)
            have HBE := Lib.hid (show Below w9.heap.size w9 wE from by rw [hwE]; exact (((((HBi.out.setCell hgb _).setCell hgb _).setCell hgb _).setCell hgb _).setCell hgb _).setCell hgb _)
            have yz := HZC.out wE HBE.out
            clear hwE HOi HBi HPN HST HPG HZC
            generalize (zz[k]'hkz).ag = zag at *
            by_cases hza : zag = (ai : Int)
            · have hza' : (zag == (ai : Int)) = true := by rw [beq_iff_eq]; exact hza
              have HOV := Lib.hid (show ownN zz (ai : Int) (k + 1) = ownN zz (ai : Int) k + 1 from by rw [HOW.out, if_pos hza])
              generalize ownN zz (ai : Int) k = ow at *
              go_wp2_with fail
              go_roundw
              case rel => exact ⟨k + 1, by go_num, HLK.out, by rw [HOV.out]; go_num, HOE, HBE⟩
              case measure => have h9 := HLK.out; simp [RowKit.intOf]; omega
            · have hza' : (zag == (ai : Int)) = false := by rw [beq_eq_false_iff_ne]; exact hza
              have HOV := Lib.hid (show ownN zz (ai : Int) (k + 1) = ownN zz (ai : Int) k from by rw [HOW.out, if_neg hza]; omega)
              go_wp2_with fail
              go_roundw
              case rel => exact ⟨k + 1, by go_num, HLK.out, by rw [HOV.out], HOE, HBE⟩
              case measure => have h9 := HLK.out; simp [RowKit.intOf]; omega
          · have hke : k = hs.length := by omega
            have hkk : ¬ (k : Int) < (hs.length : Int) := by omega
            have HB9i := HBi
            have HBwi := Lib.hid (show Below w7.heap.size w7 wi from below_up8 (below_up8 (below_up8 HB.out HB8.out) HB89.out) HBi.out)
            have HB3i := Lib.hid (below_up8 HB37.out HBwi.out)
            have HBWi := Lib.hid (below_up8 HB3.out HB3i.out)
            have HXi := Lib.hid (HX7.out.1.below HBwi.out)
            have HKi := Lib.hid (HX7.out.2.below HBwi.out)
            have HOZ := Lib.hid (show 0 < ownN zz (ai : Int) k ↔ 0 < ownN zz (ai : Int) zz.length from by rw [hke, HZE.out.2.1])
            obtain ⟨AG, hAG⟩ : ∃ AG, AG = agB f (zz.map plainE) X ((2 : Int) ^ ai) := ⟨_, rfl⟩
            have HFA := Lib.hid (show fdB f zz X (ai : Int) = true ↔ AG = true ∧ 0 < ownN zz (ai : Int) k from by
              rw [HFA.out, HOZ.out, hAG, Int.toNat_natCast])
            have HCA := Lib.hid (fun W (b : Below wi.heap.size wi W) => show Calls Tryd.prog 21 #[.agg #[.slice x1 f.dr.length k1, .int .i64 f.lat, .int .i64 f.lia, .slice x2 f.sv.length k2, .slice x3 f.tm.length k3], .slice pad hs.length pcp, .slice xad hs.length xc, .int .i64 ((2 : Int) ^ ai)] W (fun e w' => e = .returned (.bool AG) ∧ Below W.heap.size W w') from by
              obtain ⟨pad', pcp', e9, _, hr9⟩ := HOi.out.rn
              have hlz : (zz.map plainE).length = hs.length := by rw [List.length_map]; exact HZE.out.2.1
              have hkz : k = zz.length := by rw [hke]; exact HZE.out.2.1.symm
              rw [hkz, plK_all] at e9 hr9
              rw [hlz] at e9
              injection e9 with e1 e2 e3
              subst e1 e3
              have h := HAG _ f pad xad pcp xc (zz.map plainE) X ((2 : Int) ^ ai) W HFT.out (by rw [hlz]; have := HLN.out; unfold maxLen; omega) (by rw [HXL.out]; have := HLN.out; unfold maxLen; omega) HPW.out (HRY.out _ (below_up8 HBWi.out b)) (HR.out.1.below (below_up8 HB3i.out b)) (hr9.rl.below b) (HXi.out.below b)
              rw [hlz, HXL.out, ← hAG] at h
              exact h)
            clear hAG hke hlk HOZ HOi
            have hai4 : ai = 0 ∨ ai = 1 ∨ ai = 2 ∨ ai = 3 := by have := HAI.out; have := HFL.out; omega
            generalize ownN zz (ai : Int) k = ow at *
            go_upto_region 22 with fail
            go_cut [24] from 113 to 118 (fun s24 wx => s24 = .bool AG ∧ Hid (Below wi.heap.size wi wx))
            case first =>
              have f0 := fun d os => (show (grow (redrawn wi d) os).cell? ⟨Q, 0, none⟩ = some (.slice x1 f.dr.length k1) from (HKi.out.below (below_regrown wi d os) 0 (by simp)).1)
              have f1 := fun d os => (show (grow (redrawn wi d) os).cell? ⟨Q, 1, none⟩ = some (.int .i64 f.lat) from (HKi.out.below (below_regrown wi d os) 1 (by simp)).1)
              have f2 := fun d os => (show (grow (redrawn wi d) os).cell? ⟨Q, 2, none⟩ = some (.int .i64 f.lia) from (HKi.out.below (below_regrown wi d os) 2 (by simp)).1)
              have f3 := fun d os => (show (grow (redrawn wi d) os).cell? ⟨Q, 3, none⟩ = some (.slice x2 f.sv.length k2) from (HKi.out.below (below_regrown wi d os) 3 (by simp)).1)
              have f4 := fun d os => (show (grow (redrawn wi d) os).cell? ⟨Q, 4, none⟩ = some (.slice x3 f.tm.length k3) from (HKi.out.below (below_regrown wi d os) 4 (by simp)).1)
              refine wp_region_quiet_below (by kernel_rfl) (by kernel_rfl) ?_
              rcases hai4 with rfl | rfl | rfl | rfl
              · repeat (first | go_big_quiet_step (first | fail | (go_at_call 21; exact Calls.regrown_of (HCA.out _ (below_regrown _ _ _)))) | quiet_step (first | fail | (go_at_call 21; exact Calls.regrown_of (HCA.out _ (below_regrown _ _ _)))))
                refine wpQuiet_nil ?_
                intro _ hw'
                obtain ⟨⟨dq, osq⟩, hw''⟩ := hw'
                subst hw''
                go_wp2_with fail
                go_meet
                exact ⟨rfl, Lib.hid (below_regrown _ _ _)⟩
              · repeat (first | go_big_quiet_step (first | fail | (go_at_call 21; exact Calls.regrown_of (HCA.out _ (below_regrown _ _ _)))) | quiet_step (first | fail | (go_at_call 21; exact Calls.regrown_of (HCA.out _ (below_regrown _ _ _)))))
                refine wpQuiet_nil ?_
                intro _ hw'
                obtain ⟨⟨dq, osq⟩, hw''⟩ := hw'
                subst hw''
                go_wp2_with fail
                go_meet
                exact ⟨rfl, Lib.hid (below_regrown _ _ _)⟩
              · repeat (first | go_big_quiet_step (first | fail | (go_at_call 21; exact Calls.regrown_of (HCA.out _ (below_regrown _ _ _)))) | quiet_step (first | fail | (go_at_call 21; exact Calls.regrown_of (HCA.out _ (below_regrown _ _ _)))))
                refine wpQuiet_nil ?_
                intro _ hw'
                obtain ⟨⟨dq, osq⟩, hw''⟩ := hw'
                subst hw''
                go_wp2_with fail
                go_meet
                exact ⟨rfl, Lib.hid (below_regrown _ _ _)⟩
              · repeat (first | go_big_quiet_step (first | fail | (go_at_call 21; exact Calls.regrown_of (HCA.out _ (below_regrown _ _ _)))) | quiet_step (first | fail | (go_at_call 21; exact Calls.regrown_of (HCA.out _ (below_regrown _ _ _)))))
                refine wpQuiet_nil ?_
                intro _ hw'
                obtain ⟨⟨dq, osq⟩, hw''⟩ := hw'
                subst hw''
                go_wp2_with fail
                go_meet
                exact ⟨rfl, Lib.hid (below_regrown _ _ _)⟩
            case rest =>
              obtain ⟨rfl, HBx⟩ := hcut
              generalize wc = wj at *
              have HBj := Lib.hid (below_up8 HBwi.out HBx.out)
              have HBWj := Lib.hid (below_up8 HBWi.out HBx.out)
              clear HCA hai4
              have HBjw := Lib.hid (show Below w9.heap.size w9 wj from below_up9j HBi.out HBx.out)
              have HKY := Lib.hid (HK9.out.below HBjw.out)
              cases hB : fdB f zz X (ai : Int) with
              | false =>
                obtain rfl := HFE.out hB
                have hno : AG = true → ow = 0 := fun h => by
                  have := HFA.out
                  rw [hB] at this
                  refine Classical.byContradiction fun hne => ?_
                  have := this.2 ⟨h, by omega⟩
                  cases this
                clear hB
                cases AG with
                | false =>
                  go_wp2_with fail
                  go_roundw
                  case rel => exact ⟨j + 1, by go_num, HLT.out, HBj⟩
                  case measure => have h9 := HLT.out; simp [RowKit.intOf]; omega
                | true =>
                  obtain rfl := hno rfl
                  go_wp2_with fail
                  go_roundw
                  case rel => exact ⟨j + 1, by go_num, HLT.out, HBj⟩
                  case measure => have h9 := HLT.out; simp [RowKit.intOf]; omega
              | true =>
                obtain ⟨e1, e2, e3⟩ := HFC.out hB
                obtain ⟨g1, how⟩ := HFA.out.1 hB
                subst e2 g1
                have hcdr : CV.dr = f.drOf (ai : Int) := by rw [e1]; rfl
                have HRR := Lib.hid (fun i => show readE CV (xD X i) = 0 ∧ (i < zz.length → (evD zz i).ag = (ai : Int) → readV CV (xD X i) = (evD zz i).tm) from by rw [e1]; exact HFR.out hB i)
                rw [← e1] at e3
                have hcl2 : CV.an.length ≤ maxLen := by have := (ckB_of e3).2.2.1; unfold maxLen; omega
                have HCAN := Lib.hid (show ∀ W, Below wj.heap.size wj W → RL KA W cad CV.an from fun W b => (((HCP.out.2.below HB89.out)).below HBjw.out).below b)
                have HVK := Lib.hid (fun W (b : Below wj.heap.size wj W) => show Calls Tryd.prog 29 #[.agg #[.int .i64 CV.dr, .slice cad CV.an.length ccp]] W (fun e w' => e = .returned (.bool true) ∧ Below W.heap.size W w') from by
                  have h := HVC (.agg #[.int .i64 CV.dr, .slice cad CV.an.length ccp]) CV W ⟨cad, ccp, rfl, HCAN.out W b⟩ hcl2
                  rw [e3] at h
                  exact h)
                have HRK := Lib.hid (fun (i : Nat) W (b : Below wj.heap.size wj W) => show Calls Tryd.prog 27 #[.agg #[.int .i64 CV.dr, .slice cad CV.an.length ccp], .int .i64 (xD X i)] W (fun e w' => e = .returned (.tuple #[.int .i64 (readV CV (xD X i)), .int .i64 0]) ∧ Below W.heap.size W w') from by
                  have h := HRD CV cad ccp (xD X i) hcl2 HCP.out.1 W (HCAN.out W b)
                  rw [(HRR.out i).1] at h
                  exact h)
                obtain ⟨db, dO, rfl, hdb, hdc⟩ := HDR.out.int ai HAI.out
                have hdv : f.dr[ai]'HAI.out = CV.dr := by
                  rw [hcdr]
                  unfold Fl.drOf
                  rw [Int.toNat_natCast, List.getD_eq_getElem?_getD, List.getElem?_eq_getElem HAI.out]
                  rfl
                rw [hdv] at hdc
                have HDC := Lib.hid (fun W (b : Below wj.heap.size wj W) => hdc W (below_up8 HB37.out (below_up8 HBj.out b)))
                have ixd := fun W => at_int8 db dO f.dr.length k1 ai HAI.out W
                have HKj := Lib.hid (HX7.out.2.below HBj.out)
                have hdd : decide (CV.dr > CV.dr) = false := decide_eq_false (by omega)
                clear hB e1 e3 hcdr hcl2 hdc hdb hdv HFC HFE HFA HFR HBx
                go_upto_region 26 with fail
                go_cut [141] from 129 to 140 (fun s141 wx => s141 = .bool false ∧ Hid (Below wj.heap.size wj wx))
                case first =>
                  skip
                  have q0 := fun d os => (show (grow (redrawn wj d) os).cell? ⟨Y, 0, none⟩ = some (.int .i64 CV.dr) from (HKY.out.below (below_regrown wj d os) 0 (by simp)).1)
                  have q1 := fun d os => (show (grow (redrawn wj d) os).cell? ⟨Y, 1, none⟩ = some (.slice cad CV.an.length ccp) from (HKY.out.below (below_regrown wj d os) 1 (by simp)).1)
                  have q2 := fun d os => (show (grow (redrawn wj d) os).cell? ⟨Q, 0, none⟩ = some (.slice (some ⟨db, dO, none⟩) f.dr.length k1) from (HKj.out.below (below_regrown wj d os) 0 (by simp)).1)
                  have q3 := fun d os => (HDC.out _ (below_regrown wj d os))
                  refine wp_region_quiet_below (by kernel_rfl) (by kernel_rfl) ?_
                  repeat (first | go_big_quiet_step ((first | fail | (go_at_call 29; exact Calls.regrown_of (HVK.out _ (below_regrown _ _ _))))) | quiet_step ((first | fail | (go_at_call 29; exact Calls.regrown_of (HVK.out _ (below_regrown _ _ _))))))
                  refine wpQuiet_nil ?_
                  intro _ hw'
                  obtain ⟨⟨dq, osq⟩, hw''⟩ := hw'
                  subst hw''
                  go_wp2_with fail
                  go_meet
                  exact ⟨rfl, Lib.hid (below_regrown _ _ _)⟩
                case rest =>
                  obtain ⟨rfl, HBx⟩ := hcut
                  generalize wc = wk at *
                  have HBk := Lib.hid (below_up8 HBj.out HBx.out)
                  have HBjk := Lib.hid HBx.out
                  clear HBx ixd hdd how
                  go_wp2_with fail
                  go_loopw [25] (fun i wi => ∃ k : Nat, i = .int .i64 k ∧ k ≤ hs.length ∧ Hid (Below wk.heap.size wk wi)) (fun i _ => hs.length - (RowKit.intOf i).toNat)
                  case atStart => exact ⟨0, rfl, Nat.zero_le _, Lib.hid (Below.refl _ _)⟩
                  case round =>
                    obtain ⟨k, rfl, hk, HBl⟩ := hrel
                    generalize wr = wl at *
                    have HBjl := Lib.hid (below_up8 HBjk.out HBl.out)
                    have HB7l := Lib.hid (below_up8 HBk.out HBl.out)
                    have hln := HLN.out
                    by_cases hlk : k < hs.length
                    · have hkk : (k : Int) < (hs.length : Int) := by omega
                      have HLK := Lib.hid hlk
                      have hkz : k < zz.length := by rw [HZE.out.2.1]; exact hlk
                      obtain ⟨zb, zo, ez, hzb, hzc⟩ := (HZE.out.2.2 w7 (Below.refl _ _)).ev k hkz
                      subst ez
                      have ixz := fun W => at_ev8 zb zo hs.length zk k hlk W
                      have HZC := Lib.hid (fun W (b : Below w7.heap.size w7 W) => show W.cell? ⟨zb, zo + 12 * k, none⟩ = some (.int .i64 (evD zz k).ag) ∧ W.cell? ⟨zb, zo + 12 * k + 2, none⟩ = some (.int .i64 (evD zz k).tm) from by
                        rw [evD_of hkz]
                        exact ⟨(hzc W b).1, (hzc W b).2.2.1⟩)
                      have hxl : k < X.length := by rw [HXL.out]; exact hlk
                      obtain ⟨xb, xo, ex, hxb, hxc⟩ := HX7.out.1.int k hxl
                      subst ex
                      have hxd : X[k]'hxl = xD X k := (xD_of hxl).symm
                      rw [hxd] at hxc
                      have HXC := Lib.hid hxc
                      have ixx := fun W => at_int8 xb xo hs.length xc k hlk W
                      have hrv := (HRR.out k).2 hkz
                      have HRKk := Lib.hid (fun W (b : Below wl.heap.size wl W) => HRK.out k W (below_up8 HBjl.out b))
                      have HKYl := Lib.hid (HKY.out.below HBjl.out)
                      generalize readV CV (xD X k) = rv at *
                      generalize xD X k = xk at *
                      generalize (evD zz k).ag = zag at *
                      generalize (evD zz k).tm = ztm at *
                      clear hzc hzb hxc hxb hxd hxl hkz hlk
                      go_upto_region 31 with fail
                      go_cut [26, 27] from 148 to 156 (fun s26 s27 wx => s26 = .int .i64 rv ∧ s27 = .int .i64 0 ∧ Hid (Below wl.heap.size wl wx))
                      case first =>
                        skip
                        refine wp_region_noPanic ?_
                        refine wp_region_Kx (C := NewB wl) [10] 10 #[false, false, false, false, false, false, false, false, false, false, false] (by kernel_rfl) (by kernel_rfl) (by kernel_rfl) (newB0 _) ?_
                        intro wx hwx
                        refine wpAnyK_ex (i := 0) rfl (by kernel_rfl) (listed' := #[true, false, false, false, false, false, false, false, false, false, false]) rfl (fun _ _ _ _ _ h => h) hwx ?_
                        apply Exists.intro
                        refine ⟨⟨by kernel_rfl, fun wy hw => ?_⟩, ?_⟩
                        · (have bw := hw.below; have f0 := (show wy.cell? ⟨Y, 0, none⟩ = some (.int .i64 CV.dr) from (HKYl.out.below bw 0 (by simp)).1); have f1 := (show wy.cell? ⟨Y, 1, none⟩ = some (.slice cad CV.an.length ccp) from (HKYl.out.below bw 1 (by simp)).1); go_simp; try (first | (with_reducible rfl) | (with_reducible exact ⟨rfl, rfl⟩)))
                        try simp only [Act.put, List.getElem_toArray, List.getElem_cons_zero, List.setIfInBounds_toArray, List.set_cons_succ, List.set_cons_zero]
                        refine wpAnyK_ex (i := 1) rfl (by kernel_rfl) (listed' := #[true, true, false, false, false, false, false, false, false, false, false]) rfl (fun _ _ _ _ _ h => h) hwx ?_
                        apply Exists.intro
                        refine ⟨⟨by kernel_rfl, fun wy hw => ?_⟩, ?_⟩
                        · (have bw := hw.below; go_simp; try (first | (with_reducible rfl) | (with_reducible exact ⟨rfl, rfl⟩)))
                        try simp only [Act.put, List.getElem_toArray, List.getElem_cons_succ, List.getElem_cons_zero, List.setIfInBounds_toArray, List.set_cons_succ, List.set_cons_zero]
                        refine wpAnyK_ex (i := 2) rfl (by kernel_rfl) (listed' := #[true, true, true, false, false, false, false, false, false, false, false]) rfl (fun _ _ _ _ _ h => h) hwx ?_
                        apply Exists.intro
                        refine ⟨⟨by kernel_rfl, fun wy hw => ?_⟩, ?_⟩
                        · (have bw := hw.below; go_simp; try (first | (with_reducible rfl) | (with_reducible exact ⟨rfl, rfl⟩)))
                        try simp only [Act.put, List.getElem_toArray, List.getElem_cons_succ, List.getElem_cons_zero, List.setIfInBounds_toArray, List.set_cons_succ, List.set_cons_zero]
                        refine wpAnyK_ex (i := 3) rfl (by kernel_rfl) (listed' := #[true, true, true, true, false, false, false, false, false, false, false]) rfl (fun _ _ _ _ _ h => h) hwx ?_
                        apply Exists.intro
                        refine ⟨⟨by kernel_rfl, fun wy hw => ?_⟩, ?_⟩
                        · (have bw := hw.below; go_simp; try (first | (with_reducible rfl) | (with_reducible exact ⟨rfl, rfl⟩)))
                        try simp only [Act.put, List.getElem_toArray, List.getElem_cons_succ, List.getElem_cons_zero, List.setIfInBounds_toArray, List.set_cons_succ, List.set_cons_zero]
                        refine wpAnyK_ex (i := 4) rfl (by kernel_rfl) (listed' := #[true, true, true, true, true, false, false, false, false, false, false]) rfl (fun _ _ _ _ _ h => h) hwx ?_
                        apply Exists.intro
                        refine ⟨⟨by kernel_rfl, fun wy hw => ?_⟩, ?_⟩
                        · (have bw := hw.below; have f5 := HXC.out _ (below_up8 HB7l.out bw); go_simp; try (first | (with_reducible rfl) | (with_reducible exact ⟨rfl, rfl⟩)))
                        try simp only [Act.put, List.getElem_toArray, List.getElem_cons_succ, List.getElem_cons_zero, List.setIfInBounds_toArray, List.set_cons_succ, List.set_cons_zero]
                        refine wpAnyK_fork1 5 (by kernel_rfl) ?_
                        refine wpOpK_step rfl (by kernel_rfl) (listed' := #[true, true, true, true, true, true, false, false, false, false, false]) rfl (by kernel_rfl) (fun K hK => ?_)
                        go_simp
                        refine (HRKk.out _ hwx.below).mono ?_
                        rintro e w99 ⟨rfl, hb9⟩
                        have H9 := Lib.hid (below_up8 hwx.below hb9)
                        refine hK _ _ H9.out ?_
                        clear hK K hb9
                        try simp only [Act.put, List.getElem_toArray, List.getElem_cons_succ, List.getElem_cons_zero, List.setIfInBounds_toArray, List.set_cons_succ, List.set_cons_zero]
                        refine wpAnyK_ex (i := 6) rfl (by kernel_rfl) (listed' := #[true, true, true, true, true, true, true, false, false, false, false]) rfl (fun _ _ _ _ _ h => h) H9.out ?_
                        apply Exists.intro
                        refine ⟨⟨by kernel_rfl, fun wy hw => ?_⟩, ?_⟩
                        · (have bw := hw.below; go_simp; try (first | (with_reducible rfl) | (with_reducible exact ⟨rfl, rfl⟩)))
                        try simp only [Act.put, List.getElem_toArray, List.getElem_cons_succ, List.getElem_cons_zero, List.setIfInBounds_toArray, List.set_cons_succ, List.set_cons_zero]
                        refine wpAnyK_ex (i := 7) rfl (by kernel_rfl) (listed' := #[true, true, true, true, true, true, true, true, false, false, false]) rfl (fun _ _ _ _ _ h => h) H9.out ?_
                        apply Exists.intro
                        refine ⟨⟨by kernel_rfl, fun wy hw => ?_⟩, ?_⟩
                        · (have bw := hw.below; go_simp; try (first | (with_reducible rfl) | (with_reducible exact ⟨rfl, rfl⟩)))
                        try simp only [Act.put, List.getElem_toArray, List.getElem_cons_succ, List.getElem_cons_zero, List.setIfInBounds_toArray, List.set_cons_succ, List.set_cons_zero]
                        refine wpAnyK_ex (i := 8) rfl (by kernel_rfl) (listed' := #[true, true, true, true, true, true, true, true, true, false, false]) rfl (fun _ _ _ _ _ h => h) H9.out ?_
                        apply Exists.intro
                        refine ⟨⟨by kernel_rfl, fun wy hw => ?_⟩, ?_⟩
                        · (have bw := hw.below; go_simp; try (first | (with_reducible rfl) | (with_reducible exact ⟨rfl, rfl⟩)))
                        try simp only [Act.put, List.getElem_toArray, List.getElem_cons_succ, List.getElem_cons_zero, List.setIfInBounds_toArray, List.set_cons_succ, List.set_cons_zero]
                        refine wpAnyK_ex (i := 9) rfl (by kernel_rfl) (listed' := #[true, true, true, true, true, true, true, true, true, true, false]) rfl (fun _ _ _ _ _ h => h) H9.out ?_
                        apply Exists.intro
                        refine ⟨⟨by kernel_rfl, fun wy hw => ?_⟩, ?_⟩
                        · (have bw := hw.below; go_simp; try (first | (with_reducible rfl) | (with_reducible exact ⟨rfl, rfl⟩)))
                        try simp only [Act.put, List.getElem_toArray, List.getElem_cons_succ, List.getElem_cons_zero, List.setIfInBounds_toArray, List.set_cons_succ, List.set_cons_zero]
                        refine wpAnyK_end (by kernel_rfl) ?_
                        try simp only [pickOps, List.filterMap_cons, List.filterMap_nil, List.getElem?_toArray, List.getElem?_cons_succ, List.getElem?_cons_zero]
                        go_wp2_with fail
                        refine NoPanic.normal ?_
                        go_wp2_with fail
                        go_meet
                        exact ⟨rfl, rfl, H9⟩
                      case rest =>
                        obtain ⟨rfl, rfl, HBx⟩ := hcut
                        generalize wc = wm at *
                        have HBkm := Lib.hid (below_up8 HBl.out HBx.out)
                        obtain ⟨v0, v2⟩ := HZC.out wm (below_up8 HB7l.out HBx.out)
                        clear HBx HRKk HKYl HXC HZC ixx
                        by_cases hza : zag = (ai : Int)
                        · have hrt := hrv hza
                          subst hza hrt
                          clear hrv
                          go_wp2_with fail
                          go_roundw
                          case rel => exact ⟨k + 1, by go_num, HLK.out, HBkm⟩
                          case measure => have h9 := HLK.out; simp [RowKit.intOf]; omega
                        · have hza' : (zag == (ai : Int)) = false := by rw [beq_eq_false_iff_ne]; exact hza
                          clear hrv
                          go_wp2_with fail
                          go_roundw
                          case rel => exact ⟨k + 1, by go_num, HLK.out, HBkm⟩
                          case measure => have h9 := HLK.out; simp [RowKit.intOf]; omega
                    · have hkk : ¬ (k : Int) < (hs.length : Int) := by omega
                      clear hlk
                      go_wp2_with fail
                      go_roundw
                      case rel => exact ⟨j + 1, by go_num, HLT.out, HB7l⟩
                      case measure => have h9 := HLT.out; simp [RowKit.intOf]; omega
      · have hji : ¬ (j : Int) < 2 := by omega
        have hje : j = 2 := by omega
        clear hlt
        subst hje
        go_wp2_with fail
        go_ret
        exact ⟨rfl, HBwr.out⟩
end Go.Proofs.YtckajmdghafbeaaDoor
