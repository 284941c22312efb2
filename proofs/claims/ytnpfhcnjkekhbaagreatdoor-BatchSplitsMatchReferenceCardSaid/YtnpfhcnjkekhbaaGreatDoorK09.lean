/-
  A region that draws its order: what turns nothing first (by hand), then what only reads or lays blocks, in the order of the text, then a tail in one forced order. A region that draws its order, in four parts: what turns nothing (first), what only reads (heads: in the order of the text), what lays blocks beside it (in one forced order), a tail in one forced order.
-/
import Derived.Test.YtnpfhcnjkekhbaaGreatDoorProg
import Derived.Test.YtnpfhcnjkekhbaaGreatDoorK05
import Derived.Lib.QuietBelow
import Derived.StillTail
import Derived.WalkKit
import Derived.WalkLawsBesides
import Derived.Outline
import Derived.Lib.Hide
import Derived.Below
import Derived.BigQuiet
import Derived.Deep.QuietTactic
set_option maxRecDepth 100000
set_option maxHeartbeats 16000000
namespace Go.Proofs.YtnpfhcnjkekhbaaGreatDoor
open Go Go.Proofs Go.RowKit Go.Lib Go.Sort
section
variable {P : Program} {ops : Array Oper} {md : Region.Mode} {C : World → Prop}
def pickOps (ops : Array Oper) (l : List Nat) : List Oper := l.filterMap fun i => ops[i]?
def seqQ (md : Region.Mode) (ops : Array Oper) : List Nat → Array Bool → Bool
 | [], listed => (Region.ready md ops listed).isEmpty
 | k :: l, listed => decide (Region.ready md ops listed = [k]) && seqQ md ops l (listed.setIfInBounds k true)
def sinkQ (md : Region.Mode) (ops : Array Oper) (listed0 : Array Bool) (tl : List Nat) (t0 : Nat) : Bool :=
 (List.range ops.size).all fun i => listed0.getD i true || tl.contains i || (List.range ops.size).any fun j => decide (i < j) && Region.waitsFor md ops j i && (!tl.contains j || j == t0)
def chainQ (md : Region.Mode) (ops : Array Oper) (tl : List Nat) (t0 : Nat) : Bool := tl.all fun t => t == t0 || tl.any fun s => Region.waitsFor md ops t s
structure HInv (md : Region.Mode) (ops : Array Oper) (tl : List Nat) (listed0 listed : Array Bool) : Prop where
 size : listed.size = ops.size
 closed : ∀ j oj, ops[j]? = some oj → listed.getD j false = true → ∀ e ∈ oj.after, Region.binds md e = true → listed.getD e.on false = true
 tail : ∀ t ∈ tl, listed.getD t true = false
 base : ∀ i, listed.getD i true = false → listed0.getD i true = false
theorem HInv.set {tl : List Nat} {i : Nat} {listed0 listed : Array Bool} (inv : HInv md ops tl listed0 listed) (hi : i ∈ Region.ready md ops listed) (hin : tl.contains i = false) : HInv md ops tl listed0 (listed.setIfInBounds i true) := by
 obtain ⟨_, oi, hoi, hall⟩ := mem_ready.1 hi
 refine ⟨by simp [inv.size], fun j oj hj hl e he hb => ?_, fun t ht => ?_, fun k hk => ?_⟩
 · by_cases hij : i = j
   · subst hij
     have : oj = oi := Option.some.inj (hj.symm.trans hoi)
     subst this
     exact getD_set_true (hall e he hb)
   · rw [getD_set_ne false hij] at hl
     exact getD_set_true (inv.closed j oj hj hl e he hb)
 · have hne : i ≠ t := by
    rintro rfl
    have : tl.contains i = true := List.contains_iff_mem.2 ht
    rw [hin] at this; cases this
   rw [getD_set_ne true hne]; exact inv.tail t ht
 · by_cases hik : i = k
   · subst hik
     exact inv.base i (mem_ready.1 hi).1
   · rw [getD_set_ne true hik] at hk; exact inv.base k hk
theorem not_ready_of_wait {t i : Nat} {listed : Array Bool} (h : Region.waitsFor md ops t i = true) (hun : listed.getD i true = false) : t ∉ Region.ready md ops listed := by
 intro hr
 obtain ⟨_, ot, hot, hall⟩ := mem_ready.1 hr
 obtain ⟨oj, hoj, e, he, hb, hon⟩ := Region.waitsFor_spec h
 have : oj = ot := Option.some.inj (hoj.symm.trans hot)
 subst this
 have h2 := hall e he hb
 rw [hon, getD_both hun] at h2
 cases h2
theorem unlisted_of_wait {j i : Nat} {tl : List Nat} {listed0 listed : Array Bool} (inv : HInv md ops tl listed0 listed) (h : Region.waitsFor md ops j i = true) (hun : listed.getD i true = false) (hj : j < ops.size) : listed.getD j true = false := by
 obtain ⟨oj, hoj, e, he, hb, hon⟩ := Region.waitsFor_spec h
 cases hl : listed.getD j false with
 | true =>
  have h2 := inv.closed j oj hoj hl e he hb
  rw [hon, getD_both hun] at h2
  cases h2
 | false => exact getD_in (by rw [inv.size]; exact hj) hl
theorem tail_waitsQ {tl : List Nat} {t0 : Nat} {listed0 listed : Array Bool} (hs : sinkQ md ops listed0 tl t0 = true) (hc : chainQ md ops tl t0 = true) (inv : HInv md ops tl listed0 listed) :
 ∀ (d i : Nat), ops.size - i = d → i < ops.size → tl.contains i = false → listed.getD i true = false → ∀ t ∈ tl, t ∉ Region.ready md ops listed := by
 intro d
 induction d using Nat.strongRecOn with
 | _ d ih =>
  intro i hd hi hin hun t ht hr
  have h1 := List.all_eq_true.1 hc t ht
  rw [Bool.or_eq_true] at h1
  rcases h1 with h1 | h1
  · have e : t = t0 := by simpa using h1
    subst e
    have h2 := List.all_eq_true.1 hs i (List.mem_range.2 hi)
    rw [Bool.or_eq_true, Bool.or_eq_true] at h2
    rcases h2 with (h2 | h2) | h2
    · rw [inv.base i hun] at h2; cases h2
    · rw [hin] at h2; cases h2
    · obtain ⟨j, hj, hj2⟩ := List.any_eq_true.1 h2
      have hjs := List.mem_range.1 hj
      rw [Bool.and_eq_true, Bool.and_eq_true, decide_eq_true_eq] at hj2
      obtain ⟨⟨hij, hw⟩, hj3⟩ := hj2
      rw [Bool.or_eq_true] at hj3
      rcases hj3 with hj3 | hj3
      · have hjt : tl.contains j = false := by simpa using hj3
        exact ih (ops.size - j) (by omega) j rfl hjs hjt (unlisted_of_wait inv hw hun hjs) t ht hr
      · have : j = t := by simpa using hj3
        subst this
        exact not_ready_of_wait hw hun hr
  · obtain ⟨s, hs1, hs2⟩ := List.any_eq_true.1 h1
    exact not_ready_of_wait hs2 (inv.tail s hs1) hr
theorem ready_lt {j : Nat} {listed : Array Bool} (h : j ∈ Region.ready md ops listed) : j < ops.size := by
 obtain ⟨_, o, ho, _⟩ := mem_ready.1 h
 exact (Array.getElem?_eq_some_iff.1 ho).1
theorem wpAny_of_seqQ {Q' : Exit → Act → World → Prop} : ∀ (tl : List Nat) (listed : Array Bool) (a : Act) (w : World),
 seqQ md ops tl listed = true → wpList P ops Q' (pickOps ops tl) a w → wpAny P md ops Q' tl.length listed a w
 | [], _, _, _, hB, h => ⟨by simpa [seqQ] using hB, h⟩
 | k :: tl, listed, a, w, hB, h => by
  simp only [seqQ, Bool.and_eq_true, decide_eq_true_eq] at hB
  have hr : k ∈ Region.ready md ops listed := by rw [hB.1]; simp
  obtain ⟨_, o, h0, _⟩ := mem_ready.1 hr
  have hp : pickOps ops (k :: tl) = o :: pickOps ops tl := by unfold pickOps; rw [List.filterMap_cons, h0]
  rw [hp] at h
  refine ⟨fun h1 => (by rw [hB.1] at h1; cases h1), fun i hi => ?_⟩
  rw [hB.1] at hi
  have hik : i = k := by simpa using hi
  subst hik
  have hw : wpOp P ops Q' i (wpList P ops Q' (pickOps ops tl)) a w := by unfold wpOp; simp only [h0]; exact h
  exact wpOp_mono (fun a' w' h' => wpAny_of_seqQ tl _ a' w' hB.2 h') hw
end
end Go.Proofs.YtnpfhcnjkekhbaaGreatDoor

namespace Go.Proofs.YtnpfhcnjkekhbaaGreatDoor
open Go Go.Proofs Go.RowKit Go.Lib Go.Sort
section
variable {P : Program} {ops : Array Oper} {md : Region.Mode} {C : World → Prop} {Q : Exit → Act → World → Prop}
def StillIn (P : Program) (ops : Array Oper) (C : World → Prop) (o : Oper) (v : Value) (a : Act) : Prop := ∀ w, C w → YieldsAt P ops w o v a
theorem StillIn.of_same {o : Oper} {v : Value} {a a' : Act} (hy : StillIn P ops C o v a) (he : execOp a'.eval o = execOp a.eval o)
 (hw : Region.wanted o (yielded ops a'.tmps) = Region.wanted o (yielded ops a.tmps)) : StillIn P ops C o v a' := fun w h => (hy w h).of_same he hw
theorem StillIn.wpOp {i : Nat} {o : Oper} {v : Value} {a : Act} {w : World} (hi : ops[i]? = some o) (hy : StillIn P ops C o v a) (hw : C w) {K : Act → World → Prop} (h : K (a.put o.dst v) w) : wpOp P ops Q i K a w := by
 refine wpOp_of_stOp (K := fun a' => a' = a.put o.dst v) (fun a' e => by subst e; exact h) ((hy w hw).stOp hi rfl)
theorem wpOp_frame {j : Nat} {oj : Oper} {K : Act → World → Prop} {a : Act} {w : World} (hj : ops[j]? = some oj) (h : wpOp P ops Q j K a w) :
 wpOp P ops Q j (fun a' w' => K a' w' ∧ ∃ u ds, a' = { a.put oj.dst u with defers := ds }) a w := by
 unfold Go.wpOp at *
 simp only [hj] at *
 split
 · rename_i hw
   simp only [hw, if_true] at h
   refine h.imp (fun h => ?_) id
   unfold Oper.wp at *
   generalize (execOp a.eval oj).run P w = r at *
   cases r with
   | ok n w' =>
    cases n <;> simp only [Oper.upon] at h ⊢ <;>
     first
      | exact ⟨h, _, _, rfl⟩
      | exact ⟨h, _, _, by cases oj.dst <;> rfl⟩
      | exact Calls.mono h (fun e w'' he => by cases e <;> first | exact ⟨he, _, _, rfl⟩ | exact he)
      | exact Rows.mono h (fun _ _ he => ⟨he, _, _, rfl⟩)
   | halt x w' => cases x <;> simp only [Oper.upon] at h ⊢ <;> exact h
 · rename_i hw
   simp only [hw] at h
   exact ⟨h, _, _, rfl⟩
theorem wpOp_putC {j : Nat} {oi oj : Oper} {v : Value} (hj : ops[j]? = some oj) (hap : oi.apart ops oj = true)
 (hsi : ∀ cs b, oi.op ≠ .select cs b) (hsj : ∀ cs b, oj.op ≠ .select cs b)
 (hQ : ∀ c a w, Q (.panic c) (Act.put a oi.dst v) w → Q (.panic c) a w) {K : Act → World → Prop} {a : Act} {w : World}
 (hy : StillIn P ops C oi v a) (h : wpOp P ops Q j K (a.put oi.dst v) w) :
 wpOp P ops Q j (fun a' w' => StillIn P ops C oi v a' ∧ K (a'.put oi.dst v) w') a w := by
 have h3 := (Oper.apart_spec hap).2.2
 have hap' : Oper.apart ops { oi with op := .assign (.const v), guard := none } oj = true := by
  unfold Oper.apart at hap ⊢
  rw [Bool.and_eq_true] at hap ⊢
  refine ⟨hap.1, ?_⟩
  cases oj.dst <;> simp [Oper.looksAt, Op.operands]
 have hy' : Yields P ops { oi with op := .assign (.const v), guard := none } v a := .inl ⟨by simp [Region.wanted], fun w => by simp [execOp, Act.eval]⟩
 refine wpOp_mono (fun a' w' hh => ?_) (wpOp_frame hj (wpOp_put (oi := { oi with op := .assign (.const v), guard := none }) hj hap' (fun cs b => by simp) hsj hQ hy' h))
 obtain ⟨⟨_, hk⟩, u, ds, e⟩ := hh
 refine ⟨?_, hk⟩
 subst e
 exact hy.of_same (execOp_put oi hsi a oj.dst u h3) (wanted_put oi a oj.dst u h3)
def wpAnyK (P : Program) (md : Region.Mode) (ops : Array Oper) (Q : Exit → Act → World → Prop) (C : World → Prop) (tl : List Nat) (L : Array Bool → Act → World → Prop) : Nat → Array Bool → Act → World → Prop
 | 0, listed, a, w => L listed a w
 | f + 1, listed, a, w => Region.ready md ops listed ≠ [] ∧ ∀ i ∈ Region.ready md ops listed, tl.contains i = false ∧ wpOp P ops Q i (fun a' w' => C w' ∧ wpAnyK P md ops Q C tl L f (listed.setIfInBounds i true) a' w') a w
theorem wpAny_of_headK {tl : List Nat} {g : Nat} {L : Array Bool → Act → World → Prop} (hL : ∀ listed a w, C w → L listed a w → wpAny P md ops Q g listed a w) :
 ∀ (f : Nat) (listed : Array Bool) (a : Act) (w : World), C w → wpAnyK P md ops Q C tl L f listed a w → wpAny P md ops Q (f + g) listed a w
 | 0, listed, a, w, hw, h => by rw [Nat.zero_add]; exact hL _ _ _ hw h
 | f + 1, listed, a, w, hw, h => by
  rw [show f + 1 + g = (f + g) + 1 by omega]
  exact ⟨fun h0 => absurd h0 h.1, fun i hi => wpOp_mono (fun a' w' h' => wpAny_of_headK hL f _ a' w' h'.1 h'.2) (h.2 i hi).2⟩
theorem wpAnyK_first {tl : List Nat} {t0 i : Nat} {listed0 : Array Bool} {oi : Oper} {v : Value} {L : Array Bool → Act → World → Prop} (hi : ops[i]? = some oi) (hsel : ∀ (j : Nat) (o : Oper) cs b, ops[j]? = some o → o.op ≠ .select cs b)
 (hQ : ∀ c a w, Q (.panic c) (Act.put a oi.dst v) w → Q (.panic c) a w)
 (hs : sinkQ md ops listed0 tl t0 = true) (hc : chainQ md ops tl t0 = true) (hin : tl.contains i = false)
 (hdone : ∀ listed a w, L listed a w → ∀ j ∈ Region.ready md ops listed, tl.contains j = true) :
 ∀ (f : Nat) (listed : Array Bool) (a : Act) (w : World), C w → HInv md ops tl listed0 listed →
  (∀ j oj, ops[j]? = some oj → j ≠ i → listed.getD j true = false → (∀ e ∈ oj.after, Region.binds md e = true → e.on ≠ i) → oi.apart ops oj = true) →
  i ∈ Region.ready md ops listed → StillIn P ops C oi v a →
  wpAnyK P md ops Q C tl L f (listed.setIfInBounds i true) (a.put oi.dst v) w → wpAnyK P md ops Q C tl L (f + 1) listed a w := by
 intro f
 induction f with
 | zero =>
  intro listed a w hw inv _ hr hy H
  have hun := (mem_ready.1 hr).1
  refine ⟨fun h => (by rw [h] at hr; cases hr), fun j hj => ?_⟩
  have hjt : tl.contains j = false := by
   cases hcj : tl.contains j with
   | false => rfl
   | true => exact absurd hj (tail_waitsQ hs hc inv _ i rfl (ready_lt hr) hin hun j (List.contains_iff_mem.1 hcj))
  refine ⟨hjt, ?_⟩
  by_cases hji : j = i
  · subst hji; exact hy.wpOp hi hw ⟨hw, H⟩
  · have := hdone _ _ _ H j (ready_mono hj hji)
    rw [hjt] at this; cases this
 | succ f ih =>
  intro listed a w hw inv hfree hr hy H
  have hun := (mem_ready.1 hr).1
  refine ⟨fun h => (by rw [h] at hr; cases hr), fun j hj => ?_⟩
  have hjt : tl.contains j = false := by
   cases hcj : tl.contains j with
   | false => rfl
   | true => exact absurd hj (tail_waitsQ hs hc inv _ i rfl (ready_lt hr) hin hun j (List.contains_iff_mem.1 hcj))
  refine ⟨hjt, ?_⟩
  by_cases hji : j = i
  · subst hji; exact hy.wpOp hi hw ⟨hw, H⟩
  · have h1 := (H.2 j (ready_mono hj hji)).2
    obtain ⟨hjun, oj, hoj, hall⟩ := mem_ready.1 hj
    have hnot : ∀ e ∈ oj.after, Region.binds md e = true → e.on ≠ i := fun e he hb heq => by
     have h1 := hall e he hb
     rw [heq, getD_both hun] at h1
     cases h1
    have h2 := wpOp_putC hoj (hfree j oj hoj hji hjun hnot) (fun cs b => hsel i oi cs b hi) (fun cs b => hsel j oj cs b hoj) hQ hy h1
    have hfree' : ∀ k ok, ops[k]? = some ok → k ≠ i → (listed.setIfInBounds j true).getD k true = false →
     (∀ e ∈ ok.after, Region.binds md e = true → e.on ≠ i) → oi.apart ops ok = true := fun k ok hk hki hun hno => by
     refine hfree k ok hk hki ?_ hno
     by_cases hjk : j = k
     · subst hjk; exact hjun
     · rw [getD_set_ne true hjk] at hun; exact hun
    refine wpOp_mono (fun a' w' h3 => ⟨h3.2.1, ih (listed.setIfInBounds j true) a' w' h3.2.1 (inv.set hj hjt) hfree' (ready_mono hr (Ne.symm hji)) h3.1 ?_⟩) h2
    rw [Array.setIfInBounds_comm _ _ hji]
    exact h3.2.2
end
/-! ### one operation at a time -/
section
variable {P : Program} {ops : Array Oper} {md : Region.Mode} {C : World → Prop} {Q : Exit → Act → World → Prop}
def hinvB (md : Region.Mode) (ops : Array Oper) (tl : List Nat) (listed : Array Bool) : Bool :=
 decide (listed.size = ops.size) && (tl.all fun t => !listed.getD t true) &&
  ((List.range ops.size).all fun j => !listed.getD j false || match ops[j]? with | some oj => oj.after.all (fun e => !Region.binds md e || listed.getD e.on false) | none => true)
theorem hinv_of {tl : List Nat} {listed : Array Bool} (h : hinvB md ops tl listed = true) : HInv md ops tl listed listed := by
 unfold hinvB at h
 simp only [Bool.and_eq_true, decide_eq_true_eq] at h
 obtain ⟨⟨hsz, htl⟩, hcl⟩ := h
 refine ⟨hsz, fun j oj hj hl e he hb => ?_, fun t ht => ?_, fun i hi => hi⟩
 · have h1 := List.all_eq_true.1 hcl j (List.mem_range.2 (Array.getElem?_eq_some_iff.1 hj).1)
   rw [hj, hl] at h1
   simp only [Bool.not_true, Bool.false_or] at h1
   have h2 := Array.all_eq_true_iff_forall_mem.1 h1 e he
   rw [hb] at h2
   simpa using h2
 · have := List.all_eq_true.1 htl t ht
   simpa using this
def LastQ (md : Region.Mode) (ops : Array Oper) (tl : List Nat) (K : Act → World → Prop) (l : Array Bool) (a : Act) (w : World) : Prop := seqQ md ops tl l = true ∧ K a w
theorem lastQ_done {tl : List Nat} {K : Act → World → Prop} {l : Array Bool} {a : Act} {w : World} (h : LastQ md ops tl K l a w) : ∀ j ∈ Region.ready md ops l, tl.contains j = true := by
 obtain ⟨hs, _⟩ := h
 intro j hj
 cases tl with
 | nil => simp only [seqQ, List.isEmpty_iff] at hs; rw [hs] at hj; cases hj
 | cons t tl =>
  simp only [seqQ, Bool.and_eq_true, decide_eq_true_eq] at hs
  rw [hs.1] at hj
  have : j = t := by simpa using hj
  subst this
  simp
def takeB (md : Region.Mode) (ops : Array Oper) (tl : List Nat) (listed : Array Bool) (i : Nat) : Bool :=
 Region.noSelect ops && sinkQ md ops listed tl (tl.headD 0) && chainQ md ops tl (tl.headD 0) && !tl.contains i && hinvB md ops tl listed && (Region.ready md ops listed).contains i && Region.free md ops listed i
theorem wpAnyK_take {tl : List Nat} {i : Nat} {oi : Oper} {K : Act → World → Prop} {f : Nat} {listed listed' : Array Bool} {a : Act} {w : World} (hi : ops[i]? = some oi) (hok : takeB md ops tl listed i = true)
 (hl : listed.setIfInBounds i true = listed') (hQ : ∀ c a d v w, Q (.panic c) (Act.put a d v) w → Q (.panic c) a w) (hw : C w)
 (h : ∃ v, StillIn P ops C oi v a ∧ wpAnyK P md ops Q C tl (LastQ md ops tl K) f listed' (a.put oi.dst v) w) : wpAnyK P md ops Q C tl (LastQ md ops tl K) (f + 1) listed a w := by
 unfold takeB at hok
 simp only [Bool.and_eq_true] at hok
 obtain ⟨⟨⟨⟨⟨⟨hsel, hs⟩, hc⟩, hin⟩, hinv⟩, hr⟩, hf⟩ := hok
 obtain ⟨v, hy, H⟩ := h
 subst hl
 exact wpAnyK_first hi (Region.noSelect_spec hsel) (fun c a w => hQ c a _ _ w) hs hc (by simpa using hin) (fun _ _ _ hL => lastQ_done hL) f listed a w hw (hinv_of hinv) (Region.free_spec hi hf) (by simpa using hr) hy H
theorem wpAnyK_ex {tl : List Nat} {i : Nat} {oi : Oper} {K : Act → World → Prop} {f : Nat} {listed listed' : Array Bool} {a : Act} {w : World} (hi : ops[i]? = some oi) (hok : takeB md ops tl listed i = true)
 (hl : listed.setIfInBounds i true = listed') (hQ : ∀ c a d v w, Q (.panic c) (Act.put a d v) w → Q (.panic c) a w) (hw : C w)
 (h : ∃ v, (Region.wanted oi (yielded ops a.tmps) = true ∧ ∀ w, C w → (execOp a.eval oi).run P w = .ok (.value v) w) ∧ wpAnyK P md ops Q C tl (LastQ md ops tl K) f listed' (a.put oi.dst v) w) : wpAnyK P md ops Q C tl (LastQ md ops tl K) (f + 1) listed a w := by
 obtain ⟨v, ⟨h1, h2⟩, h3⟩ := h
 exact wpAnyK_take hi hok hl hQ hw ⟨v, fun w hC => .inl ⟨h1, .inl (h2 w hC)⟩, h3⟩
theorem wpAnyK_callx {tl : List Nat} {i : Nat} {oi : Oper} {K : Act → World → Prop} {f : Nat} {listed listed' : Array Bool} {a : Act} {w : World} (hi : ops[i]? = some oi) (hok : takeB md ops tl listed i = true)
 (hl : listed.setIfInBounds i true = listed') (hQ : ∀ c a d v w, Q (.panic c) (Act.put a d v) w → Q (.panic c) a w) (hw : C w)
 (h : ∃ f' args v, (Region.wanted oi (yielded ops a.tmps) = true ∧ (∀ w, C w → (execOp a.eval oi).run P w = .ok (.enter f' args) w) ∧ ∀ w, C w → Calls P f' args w (fun e w'' => e = .returned v ∧ w'' = w)) ∧ wpAnyK P md ops Q C tl (LastQ md ops tl K) f listed' (a.put oi.dst v) w) : wpAnyK P md ops Q C tl (LastQ md ops tl K) (f + 1) listed a w := by
 obtain ⟨f', args, v, ⟨h1, h2, h3⟩, h4⟩ := h
 exact wpAnyK_take hi hok hl hQ hw ⟨v, fun w hC => .inl ⟨h1, .inr (.inr ⟨f', args, h2 w hC, h3 w hC⟩)⟩, h4⟩
theorem wpAnyK_fork {tl : List Nat} {L : Array Bool → Act → World → Prop} {f : Nat} {listed : Array Bool} {a : Act} {w : World} (rs : List Nat) (hr : Region.ready md ops listed = rs) (hne : rs ≠ [])
 (h : ∀ i ∈ rs, tl.contains i = false ∧ wpOp P ops Q i (fun a' w' => C w' ∧ wpAnyK P md ops Q C tl L f (listed.setIfInBounds i true) a' w') a w) : wpAnyK P md ops Q C tl L (f + 1) listed a w := ⟨by rw [hr]; exact hne, by rw [hr]; exact h⟩
theorem wpAnyK_fork1 {tl : List Nat} {L : Array Bool → Act → World → Prop} {f : Nat} {listed : Array Bool} {a : Act} {w : World} (i : Nat) (hr : Region.ready md ops listed = [i])
    (h : tl.contains i = false ∧ wpOp P ops Q i (fun a' w' => C w' ∧ wpAnyK P md ops Q C tl L f (listed.setIfInBounds i true) a' w') a w) : wpAnyK P md ops Q C tl L (f + 1) listed a w :=
  wpAnyK_fork [i] hr (by simp) (fun j hj => by obtain rfl : j = i := by simpa using hj
                                               exact h)
theorem wpAnyK_fork2 {tl : List Nat} {L : Array Bool → Act → World → Prop} {f : Nat} {listed : Array Bool} {a : Act} {w : World} (i k : Nat) (hr : Region.ready md ops listed = [i, k])
 (h : tl.contains i = false ∧ wpOp P ops Q i (fun a' w' => C w' ∧ wpAnyK P md ops Q C tl L f (listed.setIfInBounds i true) a' w') a w)
 (h2 : tl.contains k = false ∧ wpOp P ops Q k (fun a' w' => C w' ∧ wpAnyK P md ops Q C tl L f (listed.setIfInBounds k true) a' w') a w) : wpAnyK P md ops Q C tl L (f + 1) listed a w :=
 wpAnyK_fork [i, k] hr (by simp) (fun j hj => by
  rcases List.mem_cons.1 hj with rfl | hj
  · exact h
  · obtain rfl : j = k := by simpa using hj
    exact h2)
theorem wpOpK_step {i : Nat} {oi : Oper} {tl : List Nat} {L : Array Bool → Act → World → Prop} {f : Nat} {listed listed' : Array Bool} {a : Act} {w : World} (hi : ops[i]? = some oi) (ht : tl.contains i = false) (hl : listed.setIfInBounds i true = listed') (hw : Region.wanted oi (yielded ops a.tmps) = true)
 (h : ∀ K' : Act → World → Prop, (∀ a' w', C w' → wpAnyK P md ops Q C tl L f listed' a' w' → K' a' w') → oi.wp P a w K' Q) : tl.contains i = false ∧ wpOp P ops Q i (fun a' w' => C w' ∧ wpAnyK P md ops Q C tl L f (listed.setIfInBounds i true) a' w') a w := by
 subst hl
 refine ⟨ht, ?_⟩
 unfold Go.wpOp
 simp only [hi]
 rw [if_pos hw]
 exact .inl (h _ (fun _ _ hC h => ⟨hC, h⟩))
theorem wp_region_K {id : Nat} {a : Act} {w : World} {l : List Oper} (tl : List Nat) (f : Nat) (l0 : Array Bool) (hm : P.follows .mixedOrders = true) (hf : f + tl.length = l.toArray.size) (hl0 : Array.replicate l.toArray.size false = l0) (hC : C { w with drawn := w.drawn + 1 })
 (h : wpAnyK P .any l.toArray Q C tl (LastQ .any l.toArray tl (fun a2 w2 => wpList P l.toArray Q (pickOps l.toArray tl) a2 w2)) f l0 a { w with drawn := w.drawn + 1 }) : (Code.region id l.toArray true).wp P Q a w := by
 refine wp_region_any hm ?_
 rw [hl0]
 have := wpAny_of_headK (C := C) (g := tl.length) (fun listed a2 w2 _ hL => wpAny_of_seqQ tl listed a2 w2 hL.1 hL.2) f _ a _ hC h
 rwa [hf] at this
end
theorem wpAnyK_end {P : Program} {ops : Array Oper} {md : Region.Mode} {C : World → Prop} {Q : Exit → Act → World → Prop} {tl : List Nat} {K : Act → World → Prop} {listed : Array Bool} {a : Act} {w : World} (hs : seqQ md ops tl listed = true) (h : K a w) : wpAnyK P md ops Q C tl (LastQ md ops tl K) 0 listed a w := ⟨hs, h⟩
theorem wp_region_Kx {P : Program} {C : World → Prop} {Q : Exit → Act → World → Prop} {id : Nat} {a : Act} {w : World} {l : List Oper} (tl : List Nat) (f : Nat) (l0 : Array Bool) (hm : P.follows .mixedOrders = true) (hf : f + tl.length = l.toArray.size) (hl0 : Array.replicate l.toArray.size false = l0) (hC : C { w with drawn := w.drawn + 1 })
 (h : ∀ wx, C wx → wpAnyK P .any l.toArray Q C tl (LastQ .any l.toArray tl (fun a2 w2 => wpList P l.toArray Q (pickOps l.toArray tl) a2 w2)) f l0 a wx) : (Code.region id l.toArray true).wp P Q a w :=
 wp_region_K tl f l0 hm hf hl0 hC (h _ hC)
def Grew (w w' : World) : Prop := ∃ p : Regrown, w' = grow (redrawn w p.d) p.os
theorem Grew.alloc {w w' : World} (h : Grew w w') (o : Obj) : Grew w (w'.alloc o) := by
 obtain ⟨⟨d, os⟩, rfl⟩ := h
 exact ⟨⟨d, os.push o⟩, by simp [grow, redrawn, World.alloc]⟩
theorem Grew.below {w w' : World} (h : Grew w w') : Below w.heap.size w w' := by
 obtain ⟨⟨d, os⟩, rfl⟩ := h
 exact below_regrown w d os
theorem grew0 (w : World) : Grew w { w with drawn := w.drawn + 1 } := ⟨⟨w.drawn + 1, #[]⟩, by rw [grow_empty]; rfl⟩
end Go.Proofs.YtnpfhcnjkekhbaaGreatDoor
