/-
  A region that draws its order: what turns nothing first (by hand), then what only reads or lays blocks, in the order of the text, then a tail in one forced order.
-/
import Derived.Test.YtifdcfjllonmgaaDoorHa
import Derived.Lib.QuietBelow
import Derived.StillTail
namespace Go.Proofs.YtifdcfjllonmgaaDoor
open Go Go.Proofs Go.RowKit Go.Lib Go.Sort

section
variable {P : Program} {ops : Array Oper} {md : Region.Mode} {C : World → Prop}

def pickOps (ops : Array Oper) (l : List Nat) : List Oper := l.filterMap fun i => ops[i]?
/-- The operations come up in this order, each apart from those that do not wait for it. -/
def lexQ (md : Region.Mode) (ops : Array Oper) : List Nat → Array Bool → Option (Array Bool)
  | [], listed => some listed
  | k :: l, listed => if (Region.ready md ops listed).contains k && Region.free md ops listed k then lexQ md ops l (listed.setIfInBounds k true) else none
def seqQ (md : Region.Mode) (ops : Array Oper) : List Nat → Array Bool → Bool
  | [], listed => (Region.ready md ops listed).isEmpty
  | k :: l, listed => decide (Region.ready md ops listed = [k]) && seqQ md ops l (listed.setIfInBounds k true)
def sinkQ (md : Region.Mode) (ops : Array Oper) (listed0 : Array Bool) (tl : List Nat) (t0 : Nat) : Bool :=
  (List.range ops.size).all fun i => listed0.getD i true || tl.contains i || (List.range ops.size).any fun j => decide (i < j) && Region.waitsFor md ops j i && (!tl.contains j || j == t0)
def chainQ (md : Region.Mode) (ops : Array Oper) (tl : List Nat) (t0 : Nat) : Bool := tl.all fun t => t == t0 || tl.any fun s => Region.waitsFor md ops t s
structure HInv (md : Region.Mode) (ops : Array Oper) (tl : List Nat) (listed0 listed : Array Bool) : Prop where
  size : listed.size = ops.size
  closed : ∀ j oj, ops[j]? = some oj → listed.getD j false = true → ∀ e ∈ oj.after, Region.binds md e = true → listed.getD e.on false = true
  tail : ∀ t ∈ tl, listed.getD t true = false
  base : ∀ i, listed.getD i true = false → listed0.getD i true = false
theorem HInv.set {tl : List Nat} {i : Nat} {listed0 listed : Array Bool} (inv : HInv md ops tl listed0 listed) (hi : i ∈ Region.ready md ops listed) (hin : tl.contains i = false) : HInv md ops tl listed0 (listed.setIfInBounds i true) := by
  obtain ⟨_, oi, hoi, hall⟩ := mem_ready.1 hi
  refine ⟨by simp [inv.size], fun j oj hj hl e he hb => ?_, fun t ht => ?_, fun k hk => ?_⟩
  · by_cases hij : i = j
    · subst hij
      have : oj = oi := Option.some.inj (hj.symm.trans hoi)
      subst this
      exact getD_set_true (hall e he hb)
    · rw [getD_set_ne false hij] at hl
      exact getD_set_true (inv.closed j oj hj hl e he hb)
  · have hne : i ≠ t := by
      rintro rfl
      have : tl.contains i = true := List.contains_iff_mem.2 ht
      rw [hin] at this; cases this
    rw [getD_set_ne true hne]; exact inv.tail t ht
  · by_cases hik : i = k
    · subst hik
      exact inv.base i (mem_ready.1 hi).1
    · rw [getD_set_ne true hik] at hk; exact inv.base k hk
theorem not_ready_of_wait {t i : Nat} {listed : Array Bool} (h : Region.waitsFor md ops t i = true) (hun : listed.getD i true = false) : t ∉ Region.ready md ops listed := by
  intro hr
  obtain ⟨_, ot, hot, hall⟩ := mem_ready.1 hr
  obtain ⟨oj, hoj, e, he, hb, hon⟩ := Region.waitsFor_spec h
  have : oj = ot := Option.some.inj (hoj.symm.trans hot)
  subst this
  have h2 := hall e he hb
  rw [hon, getD_both hun] at h2
  cases h2
theorem unlisted_of_wait {j i : Nat} {tl : List Nat} {listed0 listed : Array Bool} (inv : HInv md ops tl listed0 listed) (h : Region.waitsFor md ops j i = true) (hun : listed.getD i true = false) (hj : j < ops.size) : listed.getD j true = false := by
  obtain ⟨oj, hoj, e, he, hb, hon⟩ := Region.waitsFor_spec h
  cases hl : listed.getD j false with
  | true =>
    have h2 := inv.closed j oj hoj hl e he hb
    rw [hon, getD_both hun] at h2
    cases h2
  | false => exact getD_in (by rw [inv.size]; exact hj) hl
theorem tail_waitsQ {tl : List Nat} {t0 : Nat} {listed0 listed : Array Bool} (hs : sinkQ md ops listed0 tl t0 = true) (hc : chainQ md ops tl t0 = true) (inv : HInv md ops tl listed0 listed) :
    ∀ (d i : Nat), ops.size - i = d → i < ops.size → tl.contains i = false → listed.getD i true = false → ∀ t ∈ tl, t ∉ Region.ready md ops listed := by
  intro d
  induction d using Nat.strongRecOn with
  | _ d ih =>
    intro i hd hi hin hun t ht hr
    have h1 := List.all_eq_true.1 hc t ht
    rw [Bool.or_eq_true] at h1
    rcases h1 with h1 | h1
    · have e : t = t0 := by simpa using h1
      subst e
      have h2 := List.all_eq_true.1 hs i (List.mem_range.2 hi)
      rw [Bool.or_eq_true, Bool.or_eq_true] at h2
      rcases h2 with (h2 | h2) | h2
      · rw [inv.base i hun] at h2; cases h2
      · rw [hin] at h2; cases h2
      · obtain ⟨j, hj, hj2⟩ := List.any_eq_true.1 h2
        have hjs := List.mem_range.1 hj
        rw [Bool.and_eq_true, Bool.and_eq_true, decide_eq_true_eq] at hj2
        obtain ⟨⟨hij, hw⟩, hj3⟩ := hj2
        rw [Bool.or_eq_true] at hj3
        rcases hj3 with hj3 | hj3
        · have hjt : tl.contains j = false := by simpa using hj3
          exact ih (ops.size - j) (by omega) j rfl hjs hjt (unlisted_of_wait inv hw hun hjs) t ht hr
        · have : j = t := by simpa using hj3
          subst this
          exact not_ready_of_wait hw hun hr
    · obtain ⟨s, hs1, hs2⟩ := List.any_eq_true.1 h1
      exact not_ready_of_wait hs2 (inv.tail s hs1) hr
def wpAnyT (P : Program) (md : Region.Mode) (ops : Array Oper) (C : World → Prop) (tl : List Nat) (L : Array Bool → Act → Prop) : Nat → Array Bool → Act → Prop
  | 0, listed, a => L listed a
  | f + 1, listed, a => Region.ready md ops listed ≠ [] ∧ ∀ i ∈ Region.ready md ops listed, tl.contains i = false ∧ qOp P ops C i (wpAnyT P md ops C tl L f (listed.setIfInBounds i true)) a
theorem wpAny_of_headT {tl : List Nat} {g : Nat} {L : Array Bool → Act → Prop} {Q' : Exit → Act → World → Prop} (hL : ∀ listed a w, C w → L listed a → wpAny P md ops Q' g listed a w) :
    ∀ (f : Nat) (listed : Array Bool) (a : Act) (w : World), C w → wpAnyT P md ops C tl L f listed a → wpAny P md ops Q' (f + g) listed a w
  | 0, listed, a, w, hw, h => by rw [Nat.zero_add]; exact hL _ _ _ hw h
  | f + 1, listed, a, w, hw, h => by
    rw [show f + 1 + g = (f + g) + 1 by omega]
    exact ⟨fun h0 => absurd h0 h.1, fun i hi => wpOp_of_qOp hw (fun a' w' hw' h' => wpAny_of_headT hL f _ a' w' hw' h') (h.2 i hi).2⟩
theorem ready_lt {j : Nat} {listed : Array Bool} (h : j ∈ Region.ready md ops listed) : j < ops.size := by
  obtain ⟨_, o, ho, _⟩ := mem_ready.1 h
  exact (Array.getElem?_eq_some_iff.1 ho).1
theorem wpAnyT_first {tl : List Nat} {t0 i : Nat} {listed0 : Array Bool} {oi : Oper} {v : Value} {L : Array Bool → Act → Prop} (hi : ops[i]? = some oi) (hsel : ∀ (j : Nat) (o : Oper) cs b, ops[j]? = some o → o.op ≠ .select cs b)
    (hs : sinkQ md ops listed0 tl t0 = true) (hc : chainQ md ops tl t0 = true) (hin : tl.contains i = false)
    (hdone : ∀ listed a, L listed a → ∀ j ∈ Region.ready md ops listed, tl.contains j = true) :
    ∀ (f : Nat) (listed : Array Bool) (a : Act), HInv md ops tl listed0 listed →
      (∀ j oj, ops[j]? = some oj → j ≠ i → listed.getD j true = false → (∀ e ∈ oj.after, Region.binds md e = true → e.on ≠ i) → oi.apart ops oj = true) →
      i ∈ Region.ready md ops listed → YieldsIn P ops C oi v a →
      wpAnyT P md ops C tl L f (listed.setIfInBounds i true) (a.put oi.dst v) → wpAnyT P md ops C tl L (f + 1) listed a := by
  intro f
  induction f with
  | zero =>
    intro listed a inv _ hr hy H
    have hun := (mem_ready.1 hr).1
    refine ⟨fun h => (by rw [h] at hr; cases hr), fun j hj => ?_⟩
    have hjt : tl.contains j = false := by
      cases hcj : tl.contains j with
      | false => rfl
      | true => exact absurd hj (tail_waitsQ hs hc inv _ i rfl (ready_lt hr) hin hun j (List.contains_iff_mem.1 hcj))
    refine ⟨hjt, ?_⟩
    by_cases hji : j = i
    · subst hji; exact hy.qOp hi H
    · have := hdone _ _ H j (ready_mono hj hji)
      rw [hjt] at this; cases this
  | succ f ih =>
    intro listed a inv hfree hr hy H
    have hun := (mem_ready.1 hr).1
    refine ⟨fun h => (by rw [h] at hr; cases hr), fun j hj => ?_⟩
    have hjt : tl.contains j = false := by
      cases hcj : tl.contains j with
      | false => rfl
      | true => exact absurd hj (tail_waitsQ hs hc inv _ i rfl (ready_lt hr) hin hun j (List.contains_iff_mem.1 hcj))
    refine ⟨hjt, ?_⟩
    by_cases hji : j = i
    · subst hji; exact hy.qOp hi H
    · have h1 := (H.2 j (ready_mono hj hji)).2
      obtain ⟨hjun, oj, hoj, hall⟩ := mem_ready.1 hj
      have hnot : ∀ e ∈ oj.after, Region.binds md e = true → e.on ≠ i := fun e he hb heq => by
        have h1 := hall e he hb
        rw [heq, getD_both hun] at h1
        cases h1
      have h2 := qOp_put hoj (hfree j oj hoj hji hjun hnot) (fun cs b => hsel i oi cs b hi) (fun cs b => hsel j oj cs b hoj) hy h1
      have hfree' : ∀ k ok, ops[k]? = some ok → k ≠ i → (listed.setIfInBounds j true).getD k true = false →
          (∀ e ∈ ok.after, Region.binds md e = true → e.on ≠ i) → oi.apart ops ok = true := fun k ok hk hki hun hno => by
        refine hfree k ok hk hki ?_ hno
        by_cases hjk : j = k
        · subst hjk; exact hjun
        · rw [getD_set_ne true hjk] at hun; exact hun
      refine qOp_mono (fun a' h3 => ih (listed.setIfInBounds j true) a' (inv.set hj hjt) hfree' (ready_mono hr (Ne.symm hji)) h3.1 ?_) h2
      rw [Array.setIfInBounds_comm _ _ hji]
      exact h3.2
theorem wpAnyT_lex {tl : List Nat} {t0 : Nat} {listed0 listed1 : Array Bool} {Lq : Act → Prop} (hsel : Region.noSelect ops = true) (hs : sinkQ md ops listed0 tl t0 = true) (hc : chainQ md ops tl t0 = true)
    (hdone : ∀ j ∈ Region.ready md ops listed1, tl.contains j = true) :
    ∀ (hd : List Nat) (listed : Array Bool) (a : Act), (∀ k ∈ hd, tl.contains k = false) → HInv md ops tl listed0 listed → lexQ md ops hd listed = some listed1 →
    wpQuiet P ops C Lq (pickOps ops hd) a → wpAnyT P md ops C tl (fun l' a' => l' = listed1 ∧ Lq a') hd.length listed a
  | [], listed, a, _, _, hB, h => ⟨by simpa [lexQ] using hB, h⟩
  | k :: hd, listed, a, hk, inv, hB, h => by
    simp only [lexQ] at hB
    split at hB
    · rename_i hrf
      rw [Bool.and_eq_true] at hrf
      obtain ⟨hr, hf⟩ := hrf
      have hr' : k ∈ Region.ready md ops listed := by simpa using hr
      obtain ⟨_, o, h0, _⟩ := mem_ready.1 hr'
      have hkt := hk k List.mem_cons_self
      have hp : pickOps ops (k :: hd) = o :: pickOps ops hd := by unfold pickOps; rw [List.filterMap_cons, h0]
      rw [hp] at h
      have hst : qOp P ops C k (wpQuiet P ops C Lq (pickOps ops hd)) a := by unfold qOp; simp only [h0]; exact h
      obtain ⟨v, hy, hK⟩ := yieldsIn_of_qOp h0 hst
      exact wpAnyT_first h0 (Region.noSelect_spec hsel) hs hc hkt (fun listed' a' hL => by rw [hL.1]; exact hdone) hd.length listed a inv (Region.free_spec h0 hf) hr' hy
        (wpAnyT_lex hsel hs hc hdone hd _ _ (fun j hj => hk j (List.mem_cons_of_mem _ hj)) (inv.set hr' hkt) hB hK)
    · cases hB
theorem wpAny_of_seqQ {Q' : Exit → Act → World → Prop} : ∀ (tl : List Nat) (listed : Array Bool) (a : Act) (w : World),
    seqQ md ops tl listed = true → wpList P ops Q' (pickOps ops tl) a w → wpAny P md ops Q' tl.length listed a w
  | [], _, _, _, hB, h => ⟨by simpa [seqQ] using hB, h⟩
  | k :: tl, listed, a, w, hB, h => by
    simp only [seqQ, Bool.and_eq_true, decide_eq_true_eq] at hB
    have hr : k ∈ Region.ready md ops listed := by rw [hB.1]; simp
    obtain ⟨_, o, h0, _⟩ := mem_ready.1 hr
    have hp : pickOps ops (k :: tl) = o :: pickOps ops tl := by unfold pickOps; rw [List.filterMap_cons, h0]
    rw [hp] at h
    refine ⟨fun h1 => (by rw [hB.1] at h1; cases h1), fun i hi => ?_⟩
    rw [hB.1] at hi
    have hik : i = k := by simpa using hi
    subst hik
    have hw : wpOp P ops Q' i (wpList P ops Q' (pickOps ops tl)) a w := by unfold wpOp; simp only [h0]; exact h
    exact wpOp_mono (fun a' w' h' => wpAny_of_seqQ tl _ a' w' hB.2 h') hw
/-- What turns nothing in any world, first. -/
def wpPure (P : Program) (ops : Array Oper) (K : Act → Prop) : List Oper → Act → Prop
  | [], a => K a
  | o :: rest, a => ∃ v, (Region.wanted o (yielded ops a.tmps) = true ∧ ∀ w, (execOp a.eval o).run P w = .ok (.value v) w) ∧ wpPure P ops K rest (a.put o.dst v)
theorem wpAny_pure {Q : Exit → Act → World → Prop} {K : Act → Prop} {g : Nat} {listed1 : Array Bool} (hsel : Region.noSelect ops = true) (hQ : ∀ c a d v w, Q (.panic c) (Act.put a d v) w → Q (.panic c) a w)
    (hK : ∀ a' w, C w → K a' → wpAny P md ops Q g listed1 a' w) :
    ∀ (pu : List Nat) (listed : Array Bool) (a : Act) (w : World), C w → lexQ md ops pu listed = some listed1 → wpPure P ops K (pickOps ops pu) a → wpAny P md ops Q (pu.length + g) listed a w
  | [], listed, a, w, hw, hB, h => by
    have e : listed = listed1 := by simpa [lexQ] using hB
    subst e
    rw [List.length_nil, Nat.zero_add]
    exact hK a w hw h
  | k :: pu, listed, a, w, hw, hB, h => by
    simp only [lexQ] at hB
    split at hB
    · rename_i hrf
      rw [Bool.and_eq_true] at hrf
      obtain ⟨hr, hf⟩ := hrf
      have hr' : k ∈ Region.ready md ops listed := by simpa using hr
      obtain ⟨_, o, h0, _⟩ := mem_ready.1 hr'
      have hp : pickOps ops (k :: pu) = o :: pickOps ops pu := by unfold pickOps; rw [List.filterMap_cons, h0]
      rw [hp] at h
      obtain ⟨v, hv, h2⟩ := h
      rw [List.length_cons, show pu.length + 1 + g = (pu.length + g) + 1 by omega]
      exact wpAny_take h0 hsel hf hr (fun c a w => hQ c a _ _ w) (.inl hv) (wpAny_pure hsel hQ hK pu _ _ w hw hB h2)
    · cases hB
/-- The region's order: three parts. -/
def partB (md : Region.Mode) (ops : Array Oper) (pu hd tl : List Nat) : Bool :=
  Region.noSelect ops && decide (pu.length + (hd.length + tl.length) = ops.size) && (hd.all fun k => !tl.contains k) &&
  match lexQ md ops pu (Array.replicate ops.size false) with
  | none => false
  | some l0 => decide (l0.size = ops.size) && (tl.all fun t => !l0.getD t true) &&
    ((List.range ops.size).all fun j => !l0.getD j false || match ops[j]? with | some oj => oj.after.all (fun e => !Region.binds md e || l0.getD e.on false) | none => true) &&
    sinkQ md ops l0 tl (tl.headD 0) && chainQ md ops tl (tl.headD 0) &&
    match lexQ md ops hd l0 with
    | none => false
    | some l1 => ((Region.ready md ops l1).all fun j => tl.contains j) && seqQ md ops tl l1
/-- A region in three parts: the first turns nothing, the second is quiet in the class, the third goes on from every world of the class. -/
theorem wp_region_parts {id : Nat} {Q : Exit → Act → World → Prop} {a : Act} {w : World} {l : List Oper} (pu hd tl : List Nat) (hm : P.follows .mixedOrders = true) (hB : partB .any l.toArray pu hd tl = true)
    (hQ : ∀ c a d v w, Q (.panic c) (Act.put a d v) w → Q (.panic c) a w) (hC : C { w with drawn := w.drawn + 1 })
    (h : wpPure P l.toArray (wpQuiet P l.toArray C (fun a' => ∀ w', C w' → wpList P l.toArray Q (pickOps l.toArray tl) a' w') (pickOps l.toArray hd)) (pickOps l.toArray pu) a) : (Code.region id l.toArray true).wp P Q a w := by
  unfold partB at hB
  simp only [Bool.and_eq_true, decide_eq_true_eq] at hB
  obtain ⟨⟨⟨hsel, hlen⟩, hht⟩, hB⟩ := hB
  split at hB
  · cases hB
  · rename_i l0 hl0
    simp only [Bool.and_eq_true, decide_eq_true_eq] at hB
    obtain ⟨⟨⟨⟨⟨hsz, htl⟩, hcl⟩, hs⟩, hc⟩, hB⟩ := hB
    split at hB
    · cases hB
    · rename_i l1 hl1
      rw [Bool.and_eq_true] at hB
      obtain ⟨hrd, hsq⟩ := hB
      have inv0 : HInv .any l.toArray tl l0 l0 := by
        refine ⟨hsz, fun j oj hj hl e he hb => ?_, fun t ht => ?_, fun i hi => hi⟩
        · have h1 := List.all_eq_true.1 hcl j (List.mem_range.2 (Array.getElem?_eq_some_iff.1 hj).1)
          rw [hj, hl] at h1
          simp only [Bool.not_true, Bool.false_or] at h1
          have h2 := Array.all_eq_true_iff_forall_mem.1 h1 e he
          rw [hb] at h2
          simpa using h2
        · have := List.all_eq_true.1 htl t ht
          simpa using this
      refine wp_region_any hm ?_
      have key : wpAny P .any l.toArray Q (pu.length + (hd.length + tl.length)) (Array.replicate l.toArray.size false) a { w with drawn := w.drawn + 1 } := ?_
      · rwa [hlen] at key
      refine wpAny_pure (C := C) (listed1 := l0) hsel hQ (fun a' w' hw' h' => ?_) pu _ a _ hC hl0 h
      refine wpAny_of_headT (C := C) (tl := tl) (L := fun l' a' => l' = l1 ∧ ∀ w', C w' → wpList P l.toArray Q (pickOps l.toArray tl) a' w') (fun listed a2 w2 hw2 hL => ?_) hd.length _ a' w' hw' ?_
      · obtain ⟨e, hL⟩ := hL
        subst e
        exact wpAny_of_seqQ tl _ a2 w2 hsq (hL w2 hw2)
      · exact wpAnyT_lex hsel hs hc (fun j hj => List.all_eq_true.1 hrd j hj) hd l0 a' (fun k hk => by have := List.all_eq_true.1 hht k hk; simpa using this) inv0 hl1 h'
theorem wpPure_nil {K : Act → Prop} {a : Act} (h : K a) : wpPure P ops K [] a := h
theorem wpPure_step {K : Act → Prop} {a : Act} {o : Oper} {rest : List Oper}
    (h : ∀ K' : Act → Prop, (∀ a, wpPure P ops K rest a → K' a) → ∃ v, (Region.wanted o (yielded ops a.tmps) = true ∧ ∀ w, (execOp a.eval o).run P w = .ok (.value v) w) ∧ K' (a.put o.dst v)) : wpPure P ops K (o :: rest) a :=
  h _ (fun _ h => h)
end
/-- At the class 'w after draws, with blocks laid behind it'. -/
theorem wp_region_parts_below {P : Program} {id : Nat} {Q : Exit → Act → World → Prop} {a : Act} {w : World} {l : List Oper} (pu hd tl : List Nat) (hm : P.follows .mixedOrders = true) (hB : partB .any l.toArray pu hd tl = true)
    (hQ : ∀ c a d v w, Q (.panic c) (Act.put a d v) w → Q (.panic c) a w)
    (h : wpPure P l.toArray (wpQuiet P l.toArray (fun w' => ∃ p : Regrown, w' = grow (redrawn w p.d) p.os) (fun a' => ∀ w', (∃ p : Regrown, w' = grow (redrawn w p.d) p.os) → wpList P l.toArray Q (pickOps l.toArray tl) a' w') (pickOps l.toArray hd)) (pickOps l.toArray pu) a) : (Code.region id l.toArray true).wp P Q a w :=
  wp_region_parts (C := fun w' => ∃ p : Regrown, w' = grow (redrawn w p.d) p.os) pu hd tl hm hB hQ ⟨⟨w.drawn + 1, #[]⟩, by rw [grow_empty]; rfl⟩ h
end Go.Proofs.YtifdcfjllonmgaaDoor
