/-
  Layer 8: what ClockExact asks, plain; its walk.
-/
import Derived.Test.YtamefmojocegkaaDoorE00
import Derived.Test.YtamefmojocegkaaDoorK05
import Derived.Test.YtamefmojocegkaaDoorK09
import Derived.Test.YtamefmojocegkaaDoorK10
import Derived.Deep.RegionHeld3
import Derived.Lib.QuietBelow
import Derived.Deep.DeepCutAuto
import Derived.WalkKit
import Derived.WalkLawsBesides
import Derived.Outline
import Derived.Lib.Hide
import Derived.Below
import Derived.BigQuiet
import Derived.Deep.QuietTactic
import Derived.Laws.Rows
import Derived.Laws.OwnMore
import Derived.OwnWalk
import Derived.Laws.StructEq
import Derived.StillTail
import Derived.Laws.Bits128
import Derived.RangeFuncNested
import Derived.RangeFuncBound
import Derived.RangeFuncCalls
import Derived.RangeFuncLeaves
import Derived.RangeFuncFrom
import Derived.RangeFuncRecord
import Derived.OwnWalkIn
import Derived.TacticsInMore
import Derived.LoopNIn
import Derived.LoopIn
import Derived.TacticsIn
import Derived.OrdersIn
import Derived.Maps.Own
import Derived.Maps.OwnOps
namespace Go.Proofs.YtamefmojocegkaaDoor
open Go Go.Proofs Go.RowKit Go.Lib

theorem conR_step (f : Fl) (l : List Ev) (i n : Nat) : conR f l i (n + 1) = conR f l i n ++ conP f l i n := by unfold conR; rw [List.range_succ, List.flatMap_append]; simp
theorem conN_step (f : Fl) (l : List Ev) (k : Nat) : conN f l (k + 1) = conN f l k ++ conR f l k l.length := by unfold conN; rw [List.range_succ, List.flatMap_append]; simp
theorem conP_le (f : Fl) (l : List Ev) (i j : Nat) : (conP f l i j).length ≤ 3 := by
  unfold conP conA conB
  split
  · simp
  · rw [List.length_append]
    split <;> split <;> simp
theorem conR_le (f : Fl) (l : List Ev) (i : Nat) : ∀ n, (conR f l i n).length ≤ 3 * n
  | 0 => by simp [conR]
  | n + 1 => by
    rw [conR_step, List.length_append]
    have h1 := conR_le f l i n
    have h2 := conP_le f l i n
    omega
theorem conN_le (f : Fl) (l : List Ev) : ∀ k, (conN f l k).length ≤ 3 * l.length * k
  | 0 => by simp [conN]
  | k + 1 => by
    rw [conN_step, List.length_append]
    have h1 := conN_le f l k
    have h2 := conR_le f l k l.length
    rw [Nat.mul_add]
    omega
end Go.Proofs.YtamefmojocegkaaDoor

namespace Go.Proofs.YtamefmojocegkaaDoor
open Go Go.Proofs Go.RowKit Go.Lib

/-! ### bent events -/
theorem evB_set {e : Ev} (h : evB e = true) {x : Int} (h0 : 0 ≤ x) (h1 : x ≤ 1000000) : evB { e with tm := x } = true := by
  unfold evB at h ⊢
  rw [Bool.and_eq_true, Bool.and_eq_true, Bool.and_eq_true, Bool.and_eq_true, Bool.and_eq_true, Bool.and_eq_true] at h ⊢
  obtain ⟨⟨⟨⟨⟨⟨k1, k2⟩, k3⟩, k4⟩, k5⟩, k6⟩, k7⟩ := h
  exact ⟨⟨⟨⟨⟨⟨k1, k2⟩, inB_yes h0 h1⟩, k4⟩, k5⟩, k6⟩, k7⟩
theorem evB_lk {e : Ev} (h : evB e = true) (hk : e.kd = 3 ∨ e.kd = 4 ∨ e.kd = 5 ∨ e.kd = 6) {x : Int} (h0 : 0 ≤ x) (h1 : x ≤ 99) : evB { e with lk := x } = true := by
  obtain ⟨ag, sq, tm, kd, tr, sp, lk, gn, op, vr, pe, bt⟩ := e
  dsimp only at hk
  unfold evB at h ⊢
  dsimp only at h ⊢
  rw [Bool.and_eq_true] at h ⊢
  refine ⟨h.1, ?_⟩
  have h2 := h.2
  rcases hk with rfl | rfl | rfl | rfl
  · simp at h2 ⊢; exact ⟨h2.1, inB_yes h0 h1, h2.2.2⟩
  · simp at h2 ⊢; exact ⟨h2.1, inB_yes h0 h1, h2.2.2⟩
  · simp at h2 ⊢; exact ⟨h2.1, inB_yes h0 h1, h2.2.2⟩
  · simp at h2 ⊢; exact ⟨h2.1, inB_yes h0 h1, h2.2.2⟩
theorem evB_gn {e : Ev} (h : evB e = true) (hk : e.kd = 5 ∨ e.kd = 6) {x : Int} (h0 : 0 ≤ x) (h1 : x ≤ 99) : evB { e with gn := x } = true := by
  obtain ⟨ag, sq, tm, kd, tr, sp, lk, gn, op, vr, pe, bt⟩ := e
  dsimp only at hk
  unfold evB at h ⊢
  dsimp only at h ⊢
  rw [Bool.and_eq_true] at h ⊢
  refine ⟨h.1, ?_⟩
  have h2 := h.2
  rcases hk with rfl | rfl
  · simp at h2 ⊢; exact ⟨h2.1, h2.2.1, inB_yes h0 h1⟩
  · simp at h2 ⊢; exact ⟨h2.1, h2.2.1, inB_yes h0 h1⟩
/-- What a bent event keeps. -/
def Same8 (e e' : Ev) : Prop := e'.ag = e.ag ∧ e'.sq = e.sq ∧ e'.tr = e.tr ∧ e'.kd = e.kd ∧ e'.op = e.op
theorem flr_same (e : Ev) : Same8 e (flr8 e) := by
  unfold flr8
  split <;> exact ⟨rfl, rfl, rfl, rfl, rfl⟩
theorem bent_same (e : Ev) (how by_ : Int) : Same8 e (flr8 (bent1 e how by_)) := by
  have h1 : Same8 e (bent1 e how by_) := by
    unfold bent1
    split
    · exact ⟨rfl, rfl, rfl, rfl, rfl⟩
    · split
      · exact ⟨rfl, rfl, rfl, rfl, rfl⟩
      · split
        · split <;> exact ⟨rfl, rfl, rfl, rfl, rfl⟩
        · split <;> exact ⟨rfl, rfl, rfl, rfl, rfl⟩
  have h2 := flr_same (bent1 e how by_)
  exact ⟨h2.1.trans h1.1, h2.2.1.trans h1.2.1, h2.2.2.1.trans h1.2.2.1, h2.2.2.2.1.trans h1.2.2.2.1, h2.2.2.2.2.trans h1.2.2.2.2⟩
theorem flr_id {e : Ev} (h : 0 ≤ e.tm) : flr8 e = e := by unfold flr8; rw [if_neg (by omega)]
theorem bent_good {e : Ev} (h : evB e = true) (h0 : 0 ≤ e.tm) (h1 : e.tm ≤ 300000) (how by_ : Int) : evB (flr8 (bent1 e how by_)) = true := by
  have p0 := pick8_lo (c := by_) (n := 2000) (by decide)
  have p1 := pick8_hi (c := by_) (n := 2000) (by decide)
  have q0 := pick8_lo (c := by_) (n := 5) (by decide)
  have q1 := pick8_hi (c := by_) (n := 5) (by decide)
  have r0 := pick8_lo (c := by_) (n := 4) (by decide)
  have r1 := pick8_hi (c := by_) (n := 4) (by decide)
  unfold bent1
  split
  · rw [flr_id p0]; exact evB_set h p0 (by omega)
  · split
    · unfold flr8
      split
      · exact evB_set h (Int.le_refl 0) (by decide)
      · rename_i hn
        exact evB_set h (by have : ¬ e.tm + pick8 by_ 5 - 2 < 0 := hn; omega) (by omega)
    · split
      · split
        · rename_i hk
          rw [flr_id (e := { e with lk := pick8 by_ 4 }) h0]
          exact evB_lk h hk r0 (by omega)
        · rw [flr_id h0]; exact h
      · split
        · rename_i hk
          rw [flr_id (e := { e with gn := pick8 by_ 4 }) h0]
          exact evB_gn h hk r0 (by omega)
        · rw [flr_id h0]; exact h
theorem bent_len (l : List Ev) (at_ how by_ : Int) : (bentN l at_ how by_).length = l.length := by
  unfold bentN
  split
  · rename_i h; rw [h]
  · simp
theorem bent_evs (n : Int) (l : List D4) (at_ how by_ : Int) : EvsOk (fleetN n) (bentN ((exN n l).map (·.e)) at_ how by_) := by
  have hx := (ex_ok n l).2.1
  have hs := evs_of (ex_hs n l)
  by_cases he : (exN n l).map (·.e) = []
  · rw [he]; unfold bentN; rw [if_pos rfl]; rw [he] at hs; exact hs
  · generalize hL : (exN n l).map (·.e) = L at *
    have hpos : 0 < L.length := List.length_pos_iff.2 he
    have p0 := pick8_lo (c := at_) (n := (L.length : Nat)) (by omega)
    have p1 := pick8_hi (c := at_) (n := (L.length : Nat)) (by omega)
    have hk : (pick8 at_ (L.length : Nat)).toNat < L.length := by omega
    unfold bentN
    rw [if_neg he]
    generalize (pick8 at_ (L.length : Nat)).toNat = k at *
    obtain ⟨E, hE⟩ : ∃ E, E = flr8 (bent1 (evD L k) how by_) := ⟨_, rfl⟩
    rw [← hE]
    have hsame : Same8 (evD L k) E := by rw [hE]; exact bent_same _ _ _
    have hmem : ∃ h, ExOk n h ∧ h.e = evD L k := by
      rw [evD_of hk]
      obtain ⟨h, hh, e⟩ := List.mem_map.1 (show L[k] ∈ (exN n l).map (·.e) from by rw [hL]; exact List.getElem_mem hk)
      exact ⟨h, hx h hh, e⟩
    have hgood : evB E = true := by
      obtain ⟨h, hh, e⟩ := hmem
      rw [hE, ← e]
      exact bent_good hh.good hh.t0.1 hh.t0.2 how by_
    have hget : ∀ i, i < L.length → evD (L.set k E) i = if k = i then E else evD L i := fun i hi => by
      rw [evD_of (by simpa using hi), List.getElem_set]
      split
      · rfl
      · rw [evD_of hi]
    have hf : ∀ i, i < L.length → (evD (L.set k E) i).ag = (evD L i).ag ∧ (evD (L.set k E) i).sq = (evD L i).sq ∧ (evD (L.set k E) i).tr = (evD L i).tr ∧ (evD (L.set k E) i).kd = (evD L i).kd ∧ (evD (L.set k E) i).op = (evD L i).op := fun i hi => by
      rw [hget i hi]
      split
      · rename_i e; subst e; exact hsame
      · exact ⟨rfl, rfl, rfl, rfl, rfl⟩
    refine ⟨hs.1, by simp; exact hs.2.1, fun i hi => ?_⟩
    rw [List.length_set] at hi
    obtain ⟨s1, s2, s3, s4, s5⟩ := hs.2.2 i hi
    obtain ⟨f1, f2, f3, f4, f5⟩ := hf i hi
    obtain ⟨_, _, g3, _, _⟩ := hf 0 hpos
    refine ⟨?_, by rw [f1]; exact s2, by rw [f3, g3]; exact s3, by rw [f4, f5]; exact s4, fun h0 => ?_⟩
    · rw [hget i hi]
      split
      · exact hgood
      · exact s1
    · obtain ⟨e1, e2, _, _, _⟩ := hf (i - 1) (by omega)
      rw [f1, f2, e1, e2]
      exact s5 h0
/-! ### constraints -/
theorem and_sub8 (a m : Int) (a0 : 0 ≤ a) (a1 : a ≤ 1000) : (bits .and .i64 a m == a) = (bits .andNot .i64 a m == 0) := by
  show (IntKind.i64.wrap ((BitVec.ofInt 64 a &&& BitVec.ofInt 64 m).toNat : Nat) == a) = (IntKind.i64.wrap ((BitVec.ofInt 64 a &&& ~~~BitVec.ofInt 64 m).toNat : Nat) == 0)
  rw [wrap_zero _ (BitVec.isLt _)]
  have hK : ((BitVec.ofInt 64 a).toNat : Int) = a := by rw [BitVec.toNat_ofInt]; omega
  have hw : (IntKind.i64.wrap ((BitVec.ofInt 64 a &&& BitVec.ofInt 64 m).toNat : Nat) == a) = ((BitVec.ofInt 64 a &&& BitVec.ofInt 64 m).toNat == (BitVec.ofInt 64 a).toNat) := by
    have hlt := (BitVec.ofInt 64 a &&& BitVec.ofInt 64 m).isLt
    rw [IntKind.wrap_i64, Bool.eq_iff_iff]
    simp only [beq_iff_eq]
    omega
  rw [hw, Bool.eq_iff_iff, beq_iff_eq, beq_iff_eq]
  generalize BitVec.ofInt 64 a = K
  generalize BitVec.ofInt 64 m = M
  constructor
  · intro h
    have h0 : K &&& M = K := BitVec.eq_of_toNat_eq h
    have h1 : K &&& ~~~M = 0#64 := by
      apply BitVec.eq_of_getLsbD_eq
      intro i hi
      have := congrArg (fun v => BitVec.getLsbD v i) h0
      simp only [BitVec.getLsbD_and, BitVec.getLsbD_not, BitVec.getLsbD_zero] at this ⊢
      cases hk : K.getLsbD i with
      | false => simp
      | true =>
        cases hM : M.getLsbD i with
        | true => simp
        | false => rw [hk, hM] at this; cases this
    rw [h1]; rfl
  · intro h
    have h0 : K &&& ~~~M = 0#64 := BitVec.eq_of_toNat_eq h
    have h1 : K &&& M = K := by
      apply BitVec.eq_of_getLsbD_eq
      intro i hi
      have := congrArg (fun v => BitVec.getLsbD v i) h0
      simp only [BitVec.getLsbD_and, BitVec.getLsbD_not, BitVec.getLsbD_zero] at this ⊢
      cases hk : K.getLsbD i with
      | false => simp
      | true =>
        cases hM : M.getLsbD i with
        | true => rfl
        | false => rw [hk, hM] at this; simp [hi] at this
    rw [h1]
theorem conL_eq {f : Fl} {l : List Ev} (h : evsB f l = true) : conL f l = conW (rlS f) l := by
  unfold conL
  rw [if_pos h, conW_eq h]
structure CLaw (n : Nat) (c : C4) : Prop where
  f : ∃ q : Nat, c.f = (q : Int) ∧ q < n
  t : ∃ p : Nat, c.t = (p : Int) ∧ p < n
  ne : c.f ≠ c.t
  a0 : 1 ≤ c.a
  a1 : c.a ≤ 64
theorem con_law {f : Fl} {l : List Ev} (h : evsB f l = true) : ∀ c ∈ conL f l, CLaw l.length c := by
  intro c hc
  rw [conL_eq h] at hc
  have hok := con_okx h c hc
  obtain ⟨i, j, hi, hj, hij, hm⟩ := (mem_conW h).1 hc
  have he := of_evsB h
  have ga := evB_of (he.2.2 i hi).1
  have gb := evB_of (he.2.2 j hj).1
  have pa := pow8 (evD l i).ag.toNat (by omega)
  have pb := pow8 (evD l j).ag.toNat (by omega)
  have hmask : 1 ≤ mask8 (evD l i) (evD l j) ∧ mask8 (evD l i) (evD l j) ≤ 64 := by unfold mask8; split <;> omega
  have key : (c.f = (j : Int) ∧ c.t = (i : Int) ∨ c.f = (i : Int) ∧ c.t = (j : Int)) ∧ c.a = mask8 (evD l i) (evD l j) := by
    rcases List.mem_append.1 hm with hm | hm
    · unfold conA at hm
      split at hm
      · simp at hm
        rcases hm with rfl | rfl
        · exact ⟨.inl ⟨rfl, rfl⟩, rfl⟩
        · exact ⟨.inr ⟨rfl, rfl⟩, rfl⟩
      · cases hm
    · unfold conB at hm
      split at hm
      · simp at hm
        subst hm
        exact ⟨.inl ⟨rfl, rfl⟩, rfl⟩
      · cases hm
  obtain ⟨q, hq⟩ := Int.eq_ofNat_of_zero_le hok.1
  obtain ⟨p, hp⟩ := Int.eq_ofNat_of_zero_le hok.2.2.1
  refine ⟨⟨q, hq, by have := hok.2.1; omega⟩, ⟨p, hp, by have := hok.2.2.2; omega⟩, ?_, by rw [key.2]; exact hmask.1, by rw [key.2]; exact hmask.2⟩
  rcases key.1 with ⟨e1, e2⟩ | ⟨e1, e2⟩ <;> (rw [e1, e2]; omega)
theorem ag_con {f : Fl} {l : List Ev} (h : evsB f l = true) {x : List Int} (ht : timesB l.length x = true) (m : Int) : agB f l x m = (conL f l).all fun c => !brkB m x c := by
  rw [agB_eq h, ht, Bool.true_and, conL_eq h, List.not_any_eq_all_not]
/-! ### moved times -/
theorem mvN_len : ∀ (b x : List Int), (mvN x b).length = x.length
  | [], x => by cases x <;> rfl
  | b :: l, x => by
    show (if x = [] then x else mvN (mv1 x b) l).length = _
    split
    · rfl
    · rw [mvN_len l, mv1_len]
theorem mvN_bd : ∀ (b x : List Int) (M : Int), (∀ i, -M ≤ x.getD i 0 ∧ x.getD i 0 ≤ M) → ∀ i, -(M + 3000000 * (b.length : Int)) ≤ (mvN x b).getD i 0 ∧ (mvN x b).getD i 0 ≤ M + 3000000 * (b.length : Int)
  | [], x, M, h, i => by
    have e : mvN x [] = x := by cases x <;> rfl
    rw [e]
    have := h i
    simp only [List.length_nil]
    omega
  | b :: l, x, M, h, i => by
    show -(M + 3000000 * ((l.length + 1 : Nat) : Int)) ≤ (if x = [] then x else mvN (mv1 x b) l).getD i 0 ∧ (if x = [] then x else mvN (mv1 x b) l).getD i 0 ≤ M + 3000000 * ((l.length + 1 : Nat) : Int)
    split
    · have := h i; omega
    · have := mvN_bd l (mv1 x b) (M + 3000000) (mv1_bd h b) i
      omega
theorem ex_times (n : Int) (l : List D4) : ∀ i, -160000000000 ≤ ((exN n l).map (·.t)).getD i 0 ∧ ((exN n l).map (·.t)).getD i 0 ≤ 160000000000 := by
  intro i
  rw [List.getD_eq_getElem?_getD]
  rcases Nat.lt_or_ge i ((exN n l).map (·.t)).length with h | h
  · rw [List.getElem?_eq_getElem h]
    have hm : ((exN n l).map (·.t))[i] ∈ (exN n l).map (·.t) := List.getElem_mem h
    obtain ⟨y, hy, e⟩ := List.mem_map.1 hm
    have := (ex_hs n l).t y hy
    show -160000000000 ≤ ((exN n l).map (·.t))[i] ∧ ((exN n l).map (·.t))[i] ≤ 160000000000
    rw [← e]
    omega
  · rw [List.getElem?_eq_none h]
    show -160000000000 ≤ (0 : Int) ∧ (0 : Int) ≤ 160000000000
    omega
theorem mv_times (n : Int) (l : List D4) (b : List Int) (hb : b.length ≤ 1000) (k : Nat) (hk : k = (exN n l).length) : timesB k (mvN ((exN n l).map (·.t)) b) = true := by
  subst hk
  unfold timesB
  rw [Bool.and_eq_true]
  refine ⟨?_, by rw [mvN_len]; simp⟩
  rw [List.all_eq_true]
  intro x hx
  obtain ⟨i, hi, rfl⟩ := List.getElem_of_mem hx
  have := mvN_bd b _ 160000000000 (ex_times n l) i
  rw [List.getD_eq_getElem?_getD, List.getElem?_eq_getElem hi] at this
  have : -(160000000000 + 3000000 * (b.length : Int)) ≤ (mvN ((exN n l).map (·.t)) b)[i] ∧ (mvN ((exN n l).map (·.t)) b)[i] ≤ 160000000000 + 3000000 * (b.length : Int) := this
  exact inB_yes (by omega) (by omega)
end Go.Proofs.YtamefmojocegkaaDoor

namespace Go.Proofs.YtamefmojocegkaaDoor
open Go Go.Proofs Go.RowKit Go.Lib Go.Sort

def KZ : RowK Sv where
  n := 1
  bytes := 24
  et := 25
  st := 35
  zero := .slice none 0 0
  cs := fun x => [.slice x.ad x.n x.c]
  len := fun _ => rfl
  one := fun x u hu => by
    simp at hu
    subst hu
    rfl
  pos := by decide
  bb := by decide
  und := by kernel_rfl
  elem := by kernel_rfl
  info := by kernel_rfl
  zs := rfl
theorem at_z8 (g n c k : Nat) (hk : k < n) (w : World) : (Instr.indexAt 35 (.slice (some ⟨g, 0, none⟩) n c) (.int .i64 (k : Int))).run Tryd.prog w = .ok (.pointer (some ⟨g, k, none⟩)) w := by
  have := KZ.at_ g 0 n c k hk w
  rw [show 0 + KZ.n * k = k by show 0 + 1 * k = _; omega] at this
  exact this
def ConsOk8 (f : FuncId) : Prop := ∀ (v : Value) (x : Fl) (ad : Option Addr) (c : Nat) (l : List Ev) (w : World), x.fit → l.length ≤ maxLen → evsW l → Rdy w → FlAt w v x → RL KE w ad l → Calls Tryd.prog f #[v, .slice ad l.length c] w (ConPost w (conL x l) (conE x l))
theorem wf_evs {f : Fl} {l : List Ev} (h : EvsOk f l) : evsW l := by
  intro e he
  obtain ⟨i, hi, rfl⟩ := List.getElem_of_mem he
  have hg := (h.2.2 i hi).1
  rw [evD_of hi] at hg
  have hk : l[i].kd = 1 ∨ l[i].kd = 2 ∨ l[i].kd = 3 ∨ l[i].kd = 4 ∨ l[i].kd = 5 ∨ l[i].kd = 6 ∨ l[i].kd = 7 := by
    generalize l[i] = e at *
    unfold evB at hg
    refine Classical.byContradiction fun hn => ?_
    have h1 : (e.kd == 1) = false := by rw [beq_eq_false_iff_ne]; omega
    have h2 : (e.kd == 2) = false := by rw [beq_eq_false_iff_ne]; omega
    have h3 : (e.kd == 3) = false := by rw [beq_eq_false_iff_ne]; omega
    have h4 : (e.kd == 4) = false := by rw [beq_eq_false_iff_ne]; omega
    have h5 : (e.kd == 5) = false := by rw [beq_eq_false_iff_ne]; omega
    have h6 : (e.kd == 6) = false := by rw [beq_eq_false_iff_ne]; omega
    have h7 : (e.kd == 7) = false := by rw [beq_eq_false_iff_ne]; omega
    rw [h1, h2, h3, h4, h5, h6, h7] at hg
    simp at hg
  unfold Ev.wf
  rcases hk with k | k | k | k | k | k | k <;> rw [k] <;> decide
theorem all_step8 {α : Type} (p : α → Bool) (l : List α) (k : Nat) (hk : k < l.length) : (l.take (k + 1)).all p = ((l.take k).all p && p l[k]) := by
  rw [List.take_succ_eq_append_getElem hk, List.all_append]
  simp
set_option maxRecDepth 100000 in
set_option maxHeartbeats 16000000 in
theorem exact_any (HSA : SaneOk 10) (HCO : ConsOk8 16) (HAG : AgreesOk8 21) (n : Int) (ad : Option Addr) (c : Nat) (l : List D4) (b0 b1 b2 : Int) (ad2 : Option Addr) (c2 : Nat) (by_ : List Int) (agents : Int) (h0 : -9223372036854775808 ≤ n) (h1 : n ≤ 9223372036854775807) (hl : l.length ≤ maxLen) (hdi : ∀ d ∈ l, d.fit)
    (p0 : -9223372036854775808 ≤ b0) (p1 : b0 ≤ 9223372036854775807) (q0 : -9223372036854775808 ≤ b1) (q1 : b1 ≤ 9223372036854775807) (r0 : -9223372036854775808 ≤ b2) (r1 : b2 ≤ 9223372036854775807) (hby : by_.length ≤ maxLen) (hbc : by_.length ≤ c2) (hbb : ∀ i (h : i < by_.length), -9223372036854775808 ≤ by_[i] ∧ by_[i] ≤ 9223372036854775807) (m0 : -9223372036854775808 ≤ agents) (m1 : agents ≤ 9223372036854775807) (w : World) (hR : Rdy w) (hI : RL KD w ad l) (hJ : RL KI w ad2 by_) :
    Calls Tryd.prog 5 #[.int .i64 n, .slice ad l.length c, .agg #[.int .i64 b0, .int .i64 b1, .int .i64 b2], .slice ad2 by_.length c2, .int .i64 agents] w fun e w' => e = .returned (.bool true) ∧ Below w.heap.size w w' := by
  have HRY := Lib.hid (fun W (b : Below w.heap.size w W) => hR.below b)
  have HII := Lib.hid (fun W (b : Below w.heap.size w W) => hI.below b)
  have HJJ := Lib.hid (fun W (b : Below w.heap.size w W) => hJ.below b)
  have HEX := Lib.hid (fun W hW => exampleR_any n ad c l h0 h1 hl hdi W hW)
  have HLN := Lib.hid (ex_ok n l).1
  have HXT := Lib.hid (ex_times n l)
  have HBT := Lib.hid (And.intro (And.intro p0 p1) (And.intro (And.intro q0 q1) (And.intro r0 r1)))
  have HTM := Lib.hid (fun h hh => ((ex_ok n l).2.1 h hh).t0)
  have HZ1 := Lib.hid (evs_of (ex_hs n l))
  have HZ2 := Lib.hid (bent_evs n l b0 b1 b2)
  have HMV := Lib.hid (fun b hb k hk => mv_times n l b hb k hk)
  have HPK := Lib.hid (fun W => pickL8_any agents 64 m0 m1 (by decide) (by decide) W)
  obtain ⟨kb, hkb⟩ : ∃ kb, kb = (by_.take 6).length := ⟨_, rfl⟩
  have HKB := Lib.hid (And.intro hkb (And.intro hby hbc))
  have HBB := Lib.hid (fun (b : Int) (hb : b ∈ by_.take 6) => show -9223372036854775808 ≤ b ∧ b ≤ 9223372036854775807 from by
    obtain ⟨i, hi, rfl⟩ := List.getElem_of_mem (List.mem_of_mem_take hb)
    exact hbb i hi)
  have hkc : kb ≤ c2 := by rw [hkb, List.length_take]; omega
  have hkl : kb = if by_.length < 6 then by_.length else 6 := by rw [hkb, take_len8]
  have HKL := Lib.hid hkl
  have HKC := Lib.hid hkc
  obtain ⟨w1, V1, Z1, K1, B1⟩ := lay8 w [.int .i64 b0, .int .i64 b1, .int .i64 b2] 27
  have V1 := (show w.alloc (.cells #[.int .i64 b0, .int .i64 b1, .int .i64 b2] 27) = w1 from V1)
  have HK1 := Lib.hid K1
  have HB1 := Lib.hid B1
  have HSA1 := HSA w1 (hR.below B1)
  clear HSA hR hI hJ hdi K1 B1 Z1 hkb hkc hkl hbb p0 p1 q0 q1 r0 r1 hby hbc
  go_enter Tryd.func5, Tryd.ntmps5
  go_wp2_with fail
  refine HSA1.mono ?_
  rintro e w2 ⟨rfl, hb⟩
  have HK2 := Lib.hid (HK1.out.below hb)
  have HB2 := Lib.hid (below_up8 HB1.out hb)
  clear hb HSA1 HK1 HB1 V1
  go_wp2_with fail
  refine (HEX.out _ (HII.out _ HB2.out)).mono ?_
  rintro e w3 ⟨x1, k1, x2, k2, x3, k3, a4, c4, a5, c5, rfl, s1, s2, s3, hn4, hn5, s4, s5, hb⟩
  have HK3 := Lib.hid (HK2.out.below hb)
  have HB3 := Lib.hid (below_up8 HB2.out hb)
  clear hb HB2 HK2 HEX HII
  obtain ⟨f, hf⟩ : ∃ f, f = fleetN n := ⟨_, rfl⟩
  have HFT := Lib.hid (show f.fit from by rw [hf]; exact fleet_fit n)
  rw [← hf] at s1 s2 s3 HZ1 HZ2 ⊢
  clear hf
  obtain ⟨hs, hhs⟩ : ∃ hs, hs = exN n l := ⟨_, rfl⟩
  rw [← hhs] at s4 s5 HLN HXT HTM HZ1 HZ2 HMV ⊢
  clear hhs
  have HR := Lib.hid (show FlAt w3 (.agg #[.slice x1 f.dr.length k1, .int .i64 f.lat, .int .i64 f.lia, .slice x2 f.sv.length k2, .slice x3 f.tm.length k3]) f ∧ RL KE w3 a4 (hs.map (·.e)) ∧ RL KI w3 a5 (hs.map (·.t)) ∧ (a4 = none → c4 = 0) ∧ (a5 = none → c5 = 0) from ⟨⟨x1, k1, x2, k2, x3, k3, rfl, s1.rl, s2.rl, s3.rl⟩, s4.rl, s5.rl, hn4, hn5⟩)
  clear s1 s2 s3 s4 s5 hn4 hn5
  obtain ⟨w4, V4, Z4, K4, B4⟩ := lay8 w3 [.slice x1 f.dr.length k1, .int .i64 f.lat, .int .i64 f.lia, .slice x2 f.sv.length k2, .slice x3 f.tm.length k3] 24
  have V4 := (show w3.alloc (.cells #[.slice x1 f.dr.length k1, .int .i64 f.lat, .int .i64 f.lia, .slice x2 f.sv.length k2, .slice x3 f.tm.length k3] 24) = w4 from V4)
  go_upto_region 3 with fail
  clear V4
  have HKF := Lib.hid K4
  have HKB4 := Lib.hid (HK3.out.below B4)
  have HB34 := Lib.hid B4
  have hz34 : w3.heap.size < w4.heap.size := by omega
  clear K4 B4 Z4 HK3
  generalize w3.heap.size = Q at HKF ⊢
  have HB24 := Lib.hid (show Below w.heap.size w w4 from below_up8 HB3.out HB34.out)
  obtain ⟨X, hX⟩ : ∃ X, X = mvN (hs.map (·.t)) (by_.take 6) := ⟨_, rfl⟩
  have HXL := Lib.hid (show X.length = hs.length from by rw [hX, mvN_len, List.length_map])
  have HXB := Lib.hid (show ∀ i, -200000000000 ≤ X.getD i 0 ∧ X.getD i 0 ≤ 200000000000 from fun i => by
    have := mvN_bd (by_.take 6) (hs.map (·.t)) 160000000000 HXT.out i
    have h6 : (by_.take 6).length ≤ 6 := by rw [List.length_take]; omega
    rw [hX]; omega)
  have HXM := Lib.hid (show ∀ k, k = hs.length → timesB k X = true from fun k hk => by rw [hX]; exact HMV.out _ (by rw [List.length_take]; omega) k hk)
  have HMO := Lib.hid (show Calls Tryd.prog 33 #[.slice a5 hs.length c5, .slice ad2 kb c2] w4 (fun e w' => ∃ xad xc, e = .returned (.slice xad hs.length xc) ∧ hs.length ≤ xc ∧ Own KI w' w4.heap.size (.slice xad hs.length xc) X ∧ Below w4.heap.size w4 w') from by
    have h := moved_any a5 ad2 c5 c2 (hs.map (·.t)) (by_.take 6) (by rw [List.length_map]; have := HLN.out; omega) (by rw [List.length_take]; omega) HR.out.2.2.2.2 HBB.out (fun i => by have := HXT.out i; omega) w4 (HR.out.2.2.1.below HB34.out) ((HJJ.out _ HB24.out).take8 6)
    rw [List.length_map, ← HKB.out.1] at h
    refine h.mono fun e w' h => ?_
    obtain ⟨xad, xc, e1, e2, e3, e4⟩ := h
    rw [mvN_len, List.length_map] at e1 e2
    rw [mvN_len, List.length_map, ← hX] at e3
    exact ⟨xad, xc, e1, e2, e3, e4⟩)
  clear hX HMV HXT HBB HJJ
  go_cut [15] from 33 to 39 (fun s15 wx => ∃ xad xc, s15 = .slice xad hs.length xc ∧ Hid (Own KI wx w4.heap.size (.slice xad hs.length xc) X) ∧ Hid (Below w4.heap.size w4 wx))
  case first =>
    have hkc := HKC.out
    have hbc := HKB.out.2.2
    by_cases h6 : by_.length ≤ 6
    · have HMO := Lib.hid (show Calls Tryd.prog 33 #[.slice a5 hs.length c5, .slice ad2 by_.length c2] w4 (fun e w' => ∃ xad xc, e = .returned (.slice xad hs.length xc) ∧ hs.length ≤ xc ∧ Own KI w' w4.heap.size (.slice xad hs.length xc) X ∧ Below w4.heap.size w4 w') from by
        have h := HMO.out
        rw [show kb = by_.length from by rw [HKL.out]; split <;> omega] at h
        exact h)
      go_wp2_with fail
      refine HMO.out.mono ?_
      rintro e wx ⟨xad, xc, rfl, _, ho, hb⟩
      have HO := Lib.hid ho
      have HB := Lib.hid hb
      clear ho hb
      go_wp2_with fail
      go_meet
      exact ⟨xad, xc, rfl, HO, HB⟩
    · have HMO := Lib.hid (show Calls Tryd.prog 33 #[.slice a5 hs.length c5, .slice ad2 6 c2] w4 (fun e w' => ∃ xad xc, e = .returned (.slice xad hs.length xc) ∧ hs.length ≤ xc ∧ Own KI w' w4.heap.size (.slice xad hs.length xc) X ∧ Below w4.heap.size w4 w') from by
        have h := HMO.out
        rw [show kb = 6 from by rw [HKL.out]; split <;> omega] at h
        exact h)
      have h62 : 6 ≤ c2 := by omega
      go_wp2_with fail
      refine HMO.out.mono ?_
      rintro e wx ⟨xad, xc, rfl, _, ho, hb⟩
      have HO := Lib.hid ho
      have HB := Lib.hid hb
      clear ho hb
      go_wp2_with fail
      go_meet
      exact ⟨xad, xc, rfl, HO, HB⟩
  case rest =>
    obtain ⟨xad, xc, rfl, HXO, HB45⟩ := hcut
    generalize wc = w5 at *
    have HXR := Lib.hid (show RL KI w5 xad X from by
      obtain ⟨_, _, e1, _, h⟩ := HXO.out.rn
      injection e1 with e1 e2 e3
      rw [e1]; exact h.rl)
    have HK5 := Lib.hid (HKB4.out.below HB45.out)
    have HKF5 := Lib.hid (HKF.out.below HB45.out)
    have HB35 := Lib.hid (below_up8 HB34.out HB45.out)
    clear HMO HKC HKL HKB HXO HKF HKB4
    have u0 := (show w5.cell? ⟨w.heap.size, 0, none⟩ = some (.int .i64 b0) from (HK5.out 0 (by simp)).1)
    have u1 := (show w5.cell? ⟨w.heap.size, 1, none⟩ = some (.int .i64 b1) from (HK5.out 1 (by simp)).1)
    have u2 := (show w5.cell? ⟨w.heap.size, 2, none⟩ = some (.int .i64 b2) from (HK5.out 2 (by simp)).1)
    have hlm : (hs.map (·.e)).length = hs.length := List.length_map ..
    have HBE := Lib.hid (show Calls Tryd.prog 13 #[.slice a4 hs.length c4, .int .i64 b0, .int .i64 b1, .int .i64 b2] w5 (fun e w' => ∃ zad zc, e = .returned (.slice zad hs.length zc) ∧ RL KE w' zad (bentN (hs.map (·.e)) b0 b1 b2) ∧ Below w5.heap.size w5 w') from by
      have h := bentR_any a4 c4 (hs.map (·.e)) b0 b1 b2 (by rw [hlm]; have := HLN.out; omega) HR.out.2.2.2.1 HBT.out.1.1 HBT.out.1.2 HBT.out.2.1.1 HBT.out.2.1.2 HBT.out.2.2.1 HBT.out.2.2.2 (fun e he => by
        obtain ⟨h, hh, rfl⟩ := List.mem_map.1 he
        have := HTM.out h hh
        omega) w5 (HR.out.2.1.below HB35.out)
      rw [hlm] at h
      refine h.mono fun e w' h => ?_
      obtain ⟨zad, zc, e1, _, _, e4, e5⟩ := h
      rw [bent_len, hlm] at e1
      exact ⟨zad, zc, e1, e4.rl, e5⟩)
    go_wp2_with fail
    refine HBE.out.mono ?_
    rintro e w6 ⟨zad, zc, rfl, hz6, hb⟩
    have HZR := Lib.hid hz6
    have HB36 := Lib.hid (below_up8 HB35.out hb)
    have HXR6 := Lib.hid (HXR.out.below hb)
    have HKF6 := Lib.hid (HKF5.out.below hb)
    clear u0 u1 u2 hz6 hb HBE HXR HKF5 HK5 HB35 HB45
    obtain ⟨w7, V7, Z7, K7, B7⟩ := lay8 w6 [.slice a4 hs.length c4, .slice zad hs.length zc] 25
    have V7 := (show w6.alloc (.cells #[.slice a4 hs.length c4, .slice zad hs.length zc] 25) = w7 from V7)
    go_wp2_with fail
    have HK7 := Lib.hid K7
    have HB37 := Lib.hid (below_up8 HB36.out B7)
    have HX7 := Lib.hid (show RL KI w7 xad X ∧ CellsAt w7 Q [.slice x1 f.dr.length k1, .int .i64 f.lat, .int .i64 f.lia, .slice x2 f.sv.length k2, .slice x3 f.tm.length k3] from ⟨HXR6.out.below B7, HKF6.out.below B7⟩)
    have HZA := Lib.hid (show ∀ W, Below w7.heap.size w7 W → RL KE W a4 (hs.map (·.e)) ∧ RL KE W zad (bentN (hs.map (·.e)) b0 b1 b2) from fun W b => ⟨HR.out.2.1.below (below_up8 HB37.out b), (HZR.out.below B7).below b⟩)
    clear K7 B7 V7 Z7 HXR6 HKF6 HZR
    generalize w6.heap.size = Z at HK7 ⊢
    go_loopw [51] (fun i wr => ∃ j : Nat, i = .int .i64 j ∧ j ≤ 2 ∧ Hid (Below w7.heap.size w7 wr)) (fun i _ => 2 - (RowKit.intOf i).toNat)
    case atStart => exact ⟨0, rfl, by decide, Lib.hid (Below.refl _ _)⟩
    case round =>
      obtain ⟨j, rfl, hj, HB⟩ := hrel
      have HBwr := Lib.hid (show Below w.heap.size w wr from below_up8 (below_up8 HB3.out HB37.out) HB.out)
      by_cases hlt : j < 2
      · have hji : (j : Int) < 2 := by omega
        have HLT := Lib.hid hlt
        have hzz : ∃ (zz : List Ev) (za : Option Addr) (zk : Nat), w7.cell? ⟨Z, j, none⟩ = some (.slice za hs.length zk) ∧ zz.length = hs.length ∧ EvsOk f zz ∧ ∀ W, Below w7.heap.size w7 W → RL KE W za zz := by
          have hj2 : j = 0 ∨ j = 1 := by omega
          rcases hj2 with rfl | rfl
          · exact ⟨hs.map (·.e), a4, c4, (HK7.out 0 (by simp)).1, hlm, HZ1.out, fun W b => (HZA.out W b).1⟩
          · exact ⟨bentN (hs.map (·.e)) b0 b1 b2, zad, zc, (HK7.out 1 (by simp)).1, by rw [bent_len, hlm], HZ2.out, fun W b => (HZA.out W b).2⟩
        obtain ⟨zz, za, zk, hzc, hzl, hze, hzr⟩ := hzz
        have HZE := Lib.hid (And.intro hze (And.intro hzl hzr))
        have ixz := fun W => at_z8 Z 2 2 j hlt W
        have y0 := (show wr.cell? ⟨Z, j, none⟩ = some (.slice za hs.length zk) from (HB.out.cell (p := ⟨Z, j, none⟩) (World.block_lt_of_cell? w7 ⟨Z, j, none⟩ hzc)).trans hzc)
        have HKr := Lib.hid (HX7.out.2.below HB.out)
        have HXr := Lib.hid (HX7.out.1.below HB.out)
        have HB3r := Lib.hid (below_up8 HB37.out HB.out)
        have HCN := Lib.hid (show Calls Tryd.prog 16 #[.agg #[.slice x1 f.dr.length k1, .int .i64 f.lat, .int .i64 f.lia, .slice x2 f.sv.length k2, .slice x3 f.tm.length k3], .slice za hs.length zk] wr (ConPost wr (conL f zz) 0) from by
          have h := HCO _ f za zk zz wr HFT.out (by rw [hzl]; have := HLN.out; unfold maxLen; omega) (wf_evs hze) (HRY.out _ HBwr.out) (HR.out.1.below HB3r.out) (hzr _ HB.out)
          rw [hzl, show conE f zz = 0 from by unfold conE; rw [if_pos (evsB_yes hze)]] at h
          exact h)
        clear hzc hzl hze hzr hlt
        have f0 := (show wr.cell? ⟨Q, 0, none⟩ = some (.slice x1 f.dr.length k1) from (HKr.out 0 (by simp)).1)
        have f1 := (show wr.cell? ⟨Q, 1, none⟩ = some (.int .i64 f.lat) from (HKr.out 1 (by simp)).1)
        have f2 := (show wr.cell? ⟨Q, 2, none⟩ = some (.int .i64 f.lia) from (HKr.out 2 (by simp)).1)
        have f3 := (show wr.cell? ⟨Q, 3, none⟩ = some (.slice x2 f.sv.length k2) from (HKr.out 3 (by simp)).1)
        have f4 := (show wr.cell? ⟨Q, 4, none⟩ = some (.slice x3 f.tm.length k3) from (HKr.out 4 (by simp)).1)
        go_wp2_with fail
        refine HCN.out.mono ?_
        rintro e w8 ⟨cad, ccp, rfl, hlc, hrc, hb⟩
        have HCR := Lib.hid hrc.rl
        have HB8 := Lib.hid hb
        have HBw8 := Lib.hid (below_up8 HBwr.out hb)
        clear hrc hb f0 f1 f2 f3 f4 y0 ixz HCN
        have HLW := Lib.hid (con_law (evsB_yes HZE.out.1))
        have HCL := Lib.hid (show (conL f zz).length ≤ 100000 from by
          have h := conN_le f zz zz.length
          have h2 : conL f zz = conN f zz zz.length := by unfold conL; rw [if_pos (evsB_yes HZE.out.1)]
          rw [h2]
          have h3 := HZE.out.2.1
          have h4 := HLN.out
          have h5 : zz.length * zz.length ≤ 24 * 24 := Nat.mul_le_mul (by omega) (by omega)
          have h6 : 3 * zz.length * zz.length = 3 * (zz.length * zz.length) := Nat.mul_assoc _ _ _
          omega)
        have HAA := Lib.hid (fun m => ag_con (evsB_yes HZE.out.1) (HXM.out zz.length HZE.out.2.1) m)
        generalize conL f zz = CL at *
        have hcl := HCL.out
        go_upto_region 10 with fail
        obtain ⟨pk, hpk⟩ : ∃ pk, pk = pick8 agents 64 := ⟨_, rfl⟩
        have HPK := Lib.hid HPK.out
        rw [← hpk] at HPK
        clear hpk
        obtain ⟨w9, V9, Z9, K9, B9⟩ := lay8 w8 [.int .i64 agents, .int .i64 63, .int .i64 pk] 3
        have V9 := (show w8.alloc (.cells #[.int .i64 agents, .int .i64 63, .int .i64 pk] 3) = w9 from V9)
        go_wp2_with (first | (go_at_call 26; refine (HPK.out _).mono ?_; rintro e z ⟨rfl, rfl⟩))
        have HK9 := Lib.hid K9
        have HB89 := Lib.hid (below_up8 HB8.out B9)
        have HCR9 := Lib.hid (HCR.out.below B9)
        have HBw9 := Lib.hid (below_up8 HBw8.out B9)
        have HX9 := Lib.hid (HXr.out.below HB89.out)
        have HK69 := Lib.hid (HKr.out.below HB89.out)
        have HB39 := Lib.hid (below_up8 HB3r.out HB89.out)
        have HZ9 := Lib.hid (show RL KE w9 za zz from HZE.out.2.2 w9 (below_up8 HB.out HB89.out))
        clear K9 B9 V9 Z9 HCR HXr HKr HB8 HBw8 HB3r
        generalize w8.heap.size = Y at HK9 ⊢
        go_loopw [68] (fun i wq => ∃ j2 : Nat, i = .int .i64 j2 ∧ j2 ≤ 3 ∧ Hid (Below w9.heap.size w9 wq)) (fun i _ => 3 - (RowKit.intOf i).toNat)
        case atStart => exact ⟨0, rfl, by decide, Lib.hid (Below.refl _ _)⟩
        case round =>
          obtain ⟨j2, rfl, hj2, HBq⟩ := hrel
          generalize wr = wq at *
          by_cases hl3 : j2 < 3
          · have hj3 : (j2 : Int) < 3 := by omega
            have HL3 := Lib.hid hl3
            have hmm : ∃ m : Int, w9.cell? ⟨Y, j2, none⟩ = some (.int .i64 m) := by
              have h3 : j2 = 0 ∨ j2 = 1 ∨ j2 = 2 := by omega
              rcases h3 with rfl | rfl | rfl
              · exact ⟨_, (HK9.out 0 (by simp)).1⟩
              · exact ⟨_, (HK9.out 1 (by simp)).1⟩
              · exact ⟨_, (HK9.out 2 (by simp)).1⟩
            obtain ⟨m, hm⟩ := hmm
            have ixm := (show ∀ W, (Instr.indexAt 22 (.slice (some ⟨Y, 0, none⟩) 3 3) (.int .i64 (j2 : Int))).run Tryd.prog W = .ok (.pointer (some ⟨Y, j2, none⟩)) W from fun W => by have := at_int8 Y 0 3 3 j2 hl3 W; rwa [Nat.zero_add] at this)
            have y1 := (show wq.cell? ⟨Y, j2, none⟩ = some (.int .i64 m) from (HBq.out.cell (p := ⟨Y, j2, none⟩) (World.block_lt_of_cell? w9 ⟨Y, j2, none⟩ hm)).trans hm)
            clear hm hl3
            go_wp2_with fail
            clear y1 ixm
            go_loopw [22, 23] (fun u i wi => ∃ k : Nat, i = .int .i64 k ∧ k ≤ CL.length ∧ u = .bool ((CL.take k).all fun c => !brkB m X c) ∧ Hid (Below w9.heap.size w9 wi)) (fun _ i _ => CL.length - (RowKit.intOf i).toNat)
            case atStart => exact ⟨0, rfl, Nat.zero_le _, rfl, HBq⟩
            case round =>
              obtain ⟨k, rfl, hk, rfl, HBi⟩ := hrel
              generalize wr = wi at *
              by_cases hlk : k < CL.length
              · have hkk : (k : Int) < (CL.length : Int) := by omega
                have HLK := Lib.hid hlk
                obtain ⟨cb, co, rfl, hcb, hcc⟩ := HCR9.out.c4 k hlk
                have ixk := fun W => at_c4 cb co CL.length ccp k hlk W
                have hla := HLW.out (CL[k]'hlk) (List.getElem_mem hlk)
                have HST := Lib.hid (all_step8 (fun c => !brkB m X c) CL k hlk)
                have HCC := Lib.hid hcc
                obtain ⟨⟨q, hq, hqn⟩, ⟨p, hp, hpn⟩, hne, ha0, ha1⟩ := hla
                have HBR := Lib.hid (show brkB m X (CL[k]'hlk) = ((bits .and .i64 (CL[k]'hlk).a m == (CL[k]'hlk).a) && decide ((CL[k]'hlk).w < xD X p - xD X q)) from by
                  unfold brkB
                  rw [and_sub8 _ m (by omega) (by omega), hq, hp, Int.toNat_natCast, Int.toNat_natCast])
                generalize (CL[k]'hlk) = cc at *
                obtain ⟨cf, ct, cw, ca⟩ := cc
                dsimp only at hq hp hne ha0 ha1 HBR HCC
                subst hq hp
                generalize ((CL.take k).all fun c => !brkB m X c) = H at *
                obtain ⟨H1, hH1⟩ : ∃ H1, H1 = ((CL.take (k + 1)).all fun c => !brkB m X c) := ⟨_, rfl⟩
                rw [← hH1] at HST
                have HH1 := Lib.hid hH1
                clear hH1
                generalize brkB m X ⟨(q : Int), (p : Int), cw, ca⟩ = BR at *
                have hxl := HXL.out
                have hqx : q < X.length := by rw [hxl]; have := HZE.out.2.1; omega
                have hpx : p < X.length := by rw [hxl]; have := HZE.out.2.1; omega
                obtain ⟨xb, xo, rfl, hxb, hxc⟩ := HX9.out.int q hqx
                obtain ⟨xb2, xo2, ex2, _, hxc2⟩ := HX9.out.int p hpx
                injection ex2 with ex2
                injection ex2 with e1 e2
                subst e1 e2
                have hxq : X[q]'hqx = xD X q := (xD_of hqx).symm
                have hxp : X[p]'hpx = xD X p := (xD_of hpx).symm
                rw [hxq] at hxc
                rw [hxp] at hxc2
                have HXC := Lib.hid (And.intro hxc hxc2)
                have bq := HXB.out q; have bp := HXB.out p
                have bq : -200000000000 ≤ xD X q ∧ xD X q ≤ 200000000000 := bq
                have bp : -200000000000 ≤ xD X p ∧ xD X p ≤ 200000000000 := bp
                generalize xD X q = xq at *
                generalize xD X p = xp at *
                have hws : IntKind.i64.wrap (xp - xq) = xp - xq := wrapq8 (by omega)
                rw [hxl] at hqx hpx
                have ixq := fun W => at_int8 xb xo hs.length xc q hqx W
                have ixp := fun W => at_int8 xb xo hs.length xc p hpx W
                have d0 : decide ((q : Int) < 0) = false := decide_eq_false (by omega)
                have d1 : decide ((p : Int) < 0) = false := decide_eq_false (by omega)
                have d2 : decide (hs.length ≤ q) = false := decide_eq_false (by omega)
                have d3 : decide (hs.length ≤ p) = false := decide_eq_false (by omega)
                have d4 : (q == p) = false := by rw [beq_eq_false_iff_ne]; omega
                have d4' : ((q : Int) == (p : Int)) = false := by rw [beq_eq_false_iff_ne]; omega
                have d4'' : decide (q = p) = false := decide_eq_false (by omega)
                have d5 : decide (ca < 1) = false := decide_eq_false (by omega)
                clear hcc hcb hxc hxc2 hxb hqn hpn hne ha0 ha1 hlk hxq hxp hqx hpx
                go_upto_region 17 with fail
                go_cut [132] from 78 to 131 (fun s132 wx => s132 = .bool false ∧ Hid (Below wi.heap.size wi wx))
                case first =>
                  skip
                  have g0 := fun d os => (show (grow (redrawn wi d) os).cell? ⟨cb, co + 4 * k, none⟩ = some (.int .i64 (q : Int)) from (HCC.out _ (below_up8 HBi.out (below_regrown wi d os))).1)
                  have g1 := fun d os => (show (grow (redrawn wi d) os).cell? ⟨cb, co + 4 * k + 1, none⟩ = some (.int .i64 (p : Int)) from (HCC.out _ (below_up8 HBi.out (below_regrown wi d os))).2.1)
                  have g2 := fun d os => (show (grow (redrawn wi d) os).cell? ⟨cb, co + 4 * k + 2, none⟩ = some (.int .i64 cw) from (HCC.out _ (below_up8 HBi.out (below_regrown wi d os))).2.2.1)
                  have g3 := fun d os => (show (grow (redrawn wi d) os).cell? ⟨cb, co + 4 * k + 3, none⟩ = some (.int .i64 ca) from (HCC.out _ (below_up8 HBi.out (below_regrown wi d os))).2.2.2)
                  refine wp_region_quiet_below (by kernel_rfl) (by kernel_rfl) ?_
                  repeat (first | go_big_quiet_step (fail) | quiet_step (fail))
                  refine wpQuiet_nil ?_
                  intro _ hw'
                  obtain ⟨⟨dq, osq⟩, hw''⟩ := hw'
                  subst hw''
                  go_wp2_with fail
                  go_meet
                  exact ⟨rfl, Lib.hid (below_regrown _ _ _)⟩
                case rest =>
                  obtain ⟨rfl, HBx⟩ := hcut
                  generalize wc = wj at *
                  have HBj := Lib.hid (below_up8 HBi.out HBx.out)
                  clear HBi HBx d0 d1 d2 d3 d4 d4' d4'' d5
                  obtain ⟨BL, hBL⟩ : ∃ BL : Bool, BL = (bits .and .i64 ca m == ca) := ⟨_, rfl⟩
                  have hBL2 : (bits .and .i64 ca m == ca) = BL := hBL.symm
                  rw [hBL2] at HBR
                  clear hBL
                  go_upto_region 19 with fail
                  go_cut [24] from 133 to 145 (fun s24 wx => s24 = .bool BL ∧ Hid (Below wj.heap.size wj wx))
                  case first =>
                    skip
                    have g0 := fun d os => (show (grow (redrawn wj d) os).cell? ⟨cb, co + 4 * k, none⟩ = some (.int .i64 (q : Int)) from (HCC.out _ (below_up8 HBj.out (below_regrown wj d os))).1)
                    have g1 := fun d os => (show (grow (redrawn wj d) os).cell? ⟨cb, co + 4 * k + 1, none⟩ = some (.int .i64 (p : Int)) from (HCC.out _ (below_up8 HBj.out (below_regrown wj d os))).2.1)
                    have g2 := fun d os => (show (grow (redrawn wj d) os).cell? ⟨cb, co + 4 * k + 2, none⟩ = some (.int .i64 cw) from (HCC.out _ (below_up8 HBj.out (below_regrown wj d os))).2.2.1)
                    have g3 := fun d os => (show (grow (redrawn wj d) os).cell? ⟨cb, co + 4 * k + 3, none⟩ = some (.int .i64 ca) from (HCC.out _ (below_up8 HBj.out (below_regrown wj d os))).2.2.2)
                    refine wp_region_quiet_below (by kernel_rfl) (by kernel_rfl) ?_
                    repeat (first | go_big_quiet_step (fail) | quiet_step (fail))
                    refine wpQuiet_nil ?_
                    intro _ hw'
                    obtain ⟨⟨dq, osq⟩, hw''⟩ := hw'
                    subst hw''
                    go_wp2_with fail
                    go_meet
                    exact ⟨rfl, Lib.hid (below_regrown _ _ _)⟩
                  case rest =>
                    obtain ⟨rfl, HBx⟩ := hcut
                    generalize wc = wk at *
                    have HBk := Lib.hid (below_up8 HBj.out HBx.out)
                    clear HBj HBx hBL2
                    cases H with
                    | false =>
                      have HV := Lib.hid (show H1 = false from by rw [HST.out]; rfl)
                      clear HST HBR
                      go_upto_region 20 with fail
                      refine wp_region_quiet_below (by kernel_rfl) (by kernel_rfl) ?_
                      repeat (first | go_big_quiet_step (fail) | quiet_step (fail))
                      refine wpQuiet_nil ?_
                      intro _ hw'
                      obtain ⟨⟨dq, osq⟩, hw''⟩ := hw'
                      subst hw''
                      have HBl := Lib.hid (below_up8 HBk.out (below_regrown wk dq osq))
                      go_wp2_with fail
                      go_roundw
                      case rel => exact ⟨k + 1, by go_num, HLK.out, by rw [← HH1.out, HV.out], HBl⟩
                      case measure => have h9 := HLK.out; simp [RowKit.intOf]; omega
                    | true =>
                      cases BL with
                      | false =>
                        have HV := Lib.hid (show H1 = true from by rw [HST.out, HBR.out]; rfl)
                        clear HST HBR
                        go_upto_region 20 with fail
                        refine wp_region_quiet_below (by kernel_rfl) (by kernel_rfl) ?_
                        repeat (first | go_big_quiet_step (fail) | quiet_step (fail))
                        refine wpQuiet_nil ?_
                        intro _ hw'
                        obtain ⟨⟨dq, osq⟩, hw''⟩ := hw'
                        subst hw''
                        have HBl := Lib.hid (below_up8 HBk.out (below_regrown wk dq osq))
                        go_wp2_with fail
                        go_roundw
                        case rel => exact ⟨k + 1, by go_num, HLK.out, by rw [← HH1.out, HV.out], HBl⟩
                        case measure => have h9 := HLK.out; simp [RowKit.intOf]; omega
                      | true =>
                        by_cases hle : xp - xq ≤ cw
                        · have hle' : decide (xp - xq ≤ cw) = true := decide_eq_true hle
                          have HV := Lib.hid (show H1 = true from by rw [HST.out, HBR.out, decide_eq_false (show ¬ cw < xp - xq by omega)]; rfl)
                          clear HST HBR
                          go_upto_region 20 with fail
                          have g0 := fun d os => (show (grow (redrawn wk d) os).cell? ⟨cb, co + 4 * k, none⟩ = some (.int .i64 (q : Int)) from (HCC.out _ (below_up8 HBk.out (below_regrown wk d os))).1)
                          have g1 := fun d os => (show (grow (redrawn wk d) os).cell? ⟨cb, co + 4 * k + 1, none⟩ = some (.int .i64 (p : Int)) from (HCC.out _ (below_up8 HBk.out (below_regrown wk d os))).2.1)
                          have g2 := fun d os => (show (grow (redrawn wk d) os).cell? ⟨cb, co + 4 * k + 2, none⟩ = some (.int .i64 cw) from (HCC.out _ (below_up8 HBk.out (below_regrown wk d os))).2.2.1)
                          have g3 := fun d os => (show (grow (redrawn wk d) os).cell? ⟨cb, co + 4 * k + 3, none⟩ = some (.int .i64 ca) from (HCC.out _ (below_up8 HBk.out (below_regrown wk d os))).2.2.2)
                          have g4 := fun d os => (show (grow (redrawn wk d) os).cell? ⟨xb, xo + q, none⟩ = some (.int .i64 xq) from HXC.out.1 _ (below_up8 HBk.out (below_regrown wk d os)))
                          have g5 := fun d os => (show (grow (redrawn wk d) os).cell? ⟨xb, xo + p, none⟩ = some (.int .i64 xp) from HXC.out.2 _ (below_up8 HBk.out (below_regrown wk d os)))
                          refine wp_region_quiet_below (by kernel_rfl) (by kernel_rfl) ?_
                          repeat (first | go_big_quiet_step (fail) | quiet_step (fail))
                          refine wpQuiet_nil ?_
                          intro _ hw'
                          obtain ⟨⟨dq, osq⟩, hw''⟩ := hw'
                          subst hw''
                          have HBl := Lib.hid (below_up8 HBk.out (below_regrown wk dq osq))
                          go_wp2_with fail
                          go_roundw
                          case rel => exact ⟨k + 1, by go_num, HLK.out, by rw [← HH1.out, HV.out], HBl⟩
                          case measure => have h9 := HLK.out; simp [RowKit.intOf]; omega
                        · have hle' : decide (xp - xq ≤ cw) = false := decide_eq_false hle
                          have HV := Lib.hid (show H1 = false from by rw [HST.out, HBR.out, decide_eq_true (show cw < xp - xq by omega)]; rfl)
                          clear HST HBR
                          go_upto_region 20 with fail
                          have g0 := fun d os => (show (grow (redrawn wk d) os).cell? ⟨cb, co + 4 * k, none⟩ = some (.int .i64 (q : Int)) from (HCC.out _ (below_up8 HBk.out (below_regrown wk d os))).1)
                          have g1 := fun d os => (show (grow (redrawn wk d) os).cell? ⟨cb, co + 4 * k + 1, none⟩ = some (.int .i64 (p : Int)) from (HCC.out _ (below_up8 HBk.out (below_regrown wk d os))).2.1)
                          have g2 := fun d os => (show (grow (redrawn wk d) os).cell? ⟨cb, co + 4 * k + 2, none⟩ = some (.int .i64 cw) from (HCC.out _ (below_up8 HBk.out (below_regrown wk d os))).2.2.1)
                          have g3 := fun d os => (show (grow (redrawn wk d) os).cell? ⟨cb, co + 4 * k + 3, none⟩ = some (.int .i64 ca) from (HCC.out _ (below_up8 HBk.out (below_regrown wk d os))).2.2.2)
                          have g4 := fun d os => (show (grow (redrawn wk d) os).cell? ⟨xb, xo + q, none⟩ = some (.int .i64 xq) from HXC.out.1 _ (below_up8 HBk.out (below_regrown wk d os)))
                          have g5 := fun d os => (show (grow (redrawn wk d) os).cell? ⟨xb, xo + p, none⟩ = some (.int .i64 xp) from HXC.out.2 _ (below_up8 HBk.out (below_regrown wk d os)))
                          refine wp_region_quiet_below (by kernel_rfl) (by kernel_rfl) ?_
                          repeat (first | go_big_quiet_step (fail) | quiet_step (fail))
                          refine wpQuiet_nil ?_
                          intro _ hw'
                          obtain ⟨⟨dq, osq⟩, hw''⟩ := hw'
                          subst hw''
                          have HBl := Lib.hid (below_up8 HBk.out (below_regrown wk dq osq))
                          go_wp2_with fail
                          go_roundw
                          case rel => exact ⟨k + 1, by go_num, HLK.out, by rw [← HH1.out, HV.out], HBl⟩
                          case measure => have h9 := HLK.out; simp [RowKit.intOf]; omega
              · have hke : k = CL.length := by omega
                have hkk : ¬ (k : Int) < (CL.length : Int) := by omega
                have HKi := Lib.hid (HK69.out.below HBi.out)
                have HCA := Lib.hid (show Calls Tryd.prog 21 #[.agg #[.slice x1 f.dr.length k1, .int .i64 f.lat, .int .i64 f.lia, .slice x2 f.sv.length k2, .slice x3 f.tm.length k3], .slice za hs.length zk, .slice xad hs.length xc, .int .i64 m] wi (fun e w' => e = .returned (.bool ((CL.take k).all fun c => !brkB m X c)) ∧ Below wi.heap.size wi w') from by
                  have h := HAG _ f za xad zk xc zz X m wi HFT.out (by rw [HZE.out.2.1]; have := HLN.out; unfold maxLen; omega) (by rw [HXL.out]; have := HLN.out; unfold maxLen; omega) (wf_evs HZE.out.1) (HRY.out _ (below_up8 HBw9.out HBi.out)) (HR.out.1.below (below_up8 HB39.out HBi.out)) (HZ9.out.below HBi.out) (HX9.out.below HBi.out)
                  rw [HZE.out.2.1, HXL.out, HAA.out m] at h
                  rw [hke, List.take_length]
                  exact h)
                clear hke hlk
                generalize ((CL.take k).all fun c => !brkB m X c) = H at *
                have f0 := (show wi.cell? ⟨Q, 0, none⟩ = some (.slice x1 f.dr.length k1) from (HKi.out 0 (by simp)).1)
                have f1 := (show wi.cell? ⟨Q, 1, none⟩ = some (.int .i64 f.lat) from (HKi.out 1 (by simp)).1)
                have f2 := (show wi.cell? ⟨Q, 2, none⟩ = some (.int .i64 f.lia) from (HKi.out 2 (by simp)).1)
                have f3 := (show wi.cell? ⟨Q, 3, none⟩ = some (.slice x2 f.sv.length k2) from (HKi.out 3 (by simp)).1)
                have f4 := (show wi.cell? ⟨Q, 4, none⟩ = some (.slice x3 f.tm.length k3) from (HKi.out 4 (by simp)).1)
                have hbb : (H != H) = false := by cases H <;> rfl
                go_wp2_with fail
                refine HCA.out.mono ?_
                rintro e wz ⟨rfl, hb⟩
                have HBz := Lib.hid (below_up8 HBi.out hb)
                clear hb f0 f1 f2 f3 f4
                go_wp2_with fail
                go_roundw
                case rel => exact ⟨j2 + 1, by go_num, HL3.out, HBz⟩
                case measure => have h9 := HL3.out; simp [RowKit.intOf]; omega
          · have hj3 : ¬ (j2 : Int) < 3 := by omega
            have hje : j2 = 3 := by omega
            have HBe := Lib.hid (show Below w7.heap.size w7 wq from below_up8 (below_up8 HB.out HB89.out) HBq.out)
            clear hl3
            subst hje
            go_wp2_with fail
            go_roundw
            case rel => exact ⟨j + 1, by go_num, HLT.out, HBe⟩
            case measure => have h9 := HLT.out; simp [RowKit.intOf]; omega
      · have hji : ¬ (j : Int) < 2 := by omega
        have hje : j = 2 := by omega
        clear hlt
        subst hje
        go_wp2_with fail
        go_ret
        exact ⟨rfl, HBwr.out⟩
end Go.Proofs.YtamefmojocegkaaDoor
