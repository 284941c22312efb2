/-
  A loop over a function value ('for x := range seq'), by the number of its rounds: the law of the whole statement, over any program, at the wide fence.   K: the blocks that the iterator reads between two rounds.   slices.Backward at slices of numbers: its two instances, and the law of a loop over it.   The contracts of package integer's natural.compare and natural.less.   The contracts of package integer's natural.times, its closure, and of fold over naturals.   The contracts of package integer's fold over naturals, and of natural.times.   The contracts of package integer's fold over ints, and of natural.word.   The contracts of sort.Search over package integer's closure, and of greatest.   The contracts of package integer's natural.groupOfQuotient and its closure.   The contract of package integer's natural.groupOfQuotient.
-/
import Derived.Test.YtcglcgphgahnpaaGreatDoorJ08
import Derived.RangeFuncNested
import Derived.RangeFuncBound
import Derived.RangeFuncCalls
import Derived.RangeFuncLeaves
import Derived.RangeFuncBox
import Derived.TacticsInMore
import Derived.LoopNIn
import Derived.LoopIn
import Derived.Shelf.AbstractIn
set_option maxRecDepth 100000
set_option maxHeartbeats 16000000
namespace Go.Proofs.YtcglcgphgahnpaaGreatDoor
open Go Go.RowKit
def roundPost (R : Nat) (K : Nat → Prop) (I : Nat → World → Prop) (Ix : Code → World → Prop) (k : Nat) (W : World) : Exit → Act → World → Prop
 | .normal, _, W' => KeepsFrom R W W' ∧ (∀ j, K j → W'.heap[j]? = W.heap[j]?) ∧ I (k + 1) W'
 | .ret, _, W' => KeepsFrom R W W' ∧ Ix .ret W'
 | _, _, _ => False
theorem rangeFunc_nat {P : Program} {n : Nat} {g : Operand} {ps : Array Tmp} {assign body : Code} {Q : Exit → Act → World → Prop} {a : Act} {w : World}
 {gf : Nat} {lb : Array Value} (hg : a.eval g = .func (.func gf) #[] lb) (eg : ∀ args w, (callFunc gf args).run P w = .ok (.enter gf args) w)
 (N : Nat) (encs : Nat → Array Value) (hps : ∀ k, (encs k).size = ps.size) (K : Nat → Prop) (hK : ∀ j, K j → j < w.heap.size)
 (hseq : ∀ (l : Nat) (J : Nat → World → Prop) (Jx : World → Prop) (W : World),
  (∀ k A, k < N → J k A → YieldAt Fence.wide (n - 1 - 1) P l (encs k) A fun e A' =>
   (e = .returned (.bool true) ∧ J (k + 1) A' ∧ ∀ j, K j → A'.heap[j]? = A.heap[j]?) ∨ (e = .returned (.bool false) ∧ Jx A')) →
  J 0 W → (∀ j, j < w.heap.size → W.heap[j]? = w.heap[j]?) →
  CallsIn Fence.wide (n - 1) P gf (#[.func (.yield l) #[] #[]] ++ lb) W fun e W' => (∃ v, e = .returned v) ∧ (J N W' ∨ Jx W'))
 (I : Nat → World → Prop) (Ix : Code → World → Prop) (hI : OwnFrom w.heap.size I) (hIx : OwnFrom w.heap.size Ix) (h0 : I 0 w)
 (hround : ∀ (l k : Nat) (W W₂ : World), k < N → I k W₂ →
  assign.wpIn (Fence.wide.inRound l) (n - 1 - 1) P (Exit.then (fun a' W' => W' = W ∧ body.wpIn (Fence.wide.inRound l) (n - 1 - 1) P (roundPost w.heap.size K I Ix k W₂) a' W₂) (fun _ _ _ => False))
   { tmps := (ps.zip (encs k)).foldl (fun t (p, v) => t.setIfInBounds p v) a.tmps, defers := [] } W)
 (hdone : ∀ W, I N W → W.heap[w.heap.size]? = some (.deferred (some [])) →
  Q .normal { a with defers := { target := .collected w.heap.size, args := #[] } :: a.defers } W)
 (hstop : ∀ (c : Code) (W : World), Ix c W → W.heap[w.heap.size]? = some (.deferred (some [])) →
  c.wpIn Fence.wide n P Q { a with defers := { target := .collected w.heap.size, args := #[] } :: a.defers } W) :
 (Code.rangeFunc g ps assign body).wpIn Fence.wide n P Q a w := by
 refine wpIn_rangeFunc ?_
 intro fn hfn
 obtain ⟨rec, hrec⟩ : ∃ rec : LoopState → Option Code → Loop, rec = fun st pe => { state := st, pending := pe, fn, tmps := a.tmps, params := ps, assign, body, defers := w.heap.size } := ⟨_, rfl⟩
 obtain ⟨W1, hW1⟩ : ∃ W1, (w.alloc (.deferred (some []))).alloc (.loop (rec .ready none)) = W1 := ⟨_, rfl⟩
 have hL1 : W1.heap[w.heap.size + 1]? = some (.loop (rec .ready none)) := by
  rw [← hW1]; have := World.alloc_heap_new (w.alloc (.deferred (some []))) (.loop (rec .ready none)); rwa [World.size_alloc] at this
 have hD1 : W1.heap[w.heap.size]? = some (.deferred (some [])) := by
  rw [← hW1]; exact (Below.heap_alloc _ _ _ (by simp)).trans (World.alloc_heap_new w _)
 have hI1 : I 0 W1 := by rw [← hW1]; exact hI.alloc _ (hI.alloc _ h0)
 have hold : ∀ j, j < w.heap.size → W1.heap[j]? = w.heap[j]? := by
  intro j hj
  rw [← hW1]
  exact (Below.heap_alloc _ _ _ (by simp; omega)).trans (Below.heap_alloc _ _ _ hj)
 refine ⟨w.heap.size + 1, [{ target := .collected w.heap.size, args := #[] }], W1, { target := .fn (.func gf) lb, args := #[.func (.yield (w.heap.size + 1)) #[] #[]] }, W1, gf,
  #[.func (.yield (w.heap.size + 1)) #[] #[]] ++ lb, W1, ?_, ?_, ?_, ?_, (fun h => by cases h), ?_⟩
 · rw [← hW1, hrec]; exact run_enterLoop_outer _ _ _ _ _
 · simp only [resolve, hg]
   simp [go_sem]
 · intro f' _; trivial
 · simp [invoke, go_sem, eg]
 refine (hseq (w.heap.size + 1)
  (fun k W => I k W ∧ W.heap[w.heap.size + 1]? = some (.loop (rec .ready none)) ∧ W.heap[w.heap.size]? = some (.deferred (some [])))
  (fun W => ∃ c, Ix c W ∧ W.heap[w.heap.size + 1]? = some (.loop (rec .done (some c))) ∧ W.heap[w.heap.size]? = some (.deferred (some [])))
  W1 ?_ ⟨hI1, hL1, hD1⟩ hold).mono ?_
 · rintro k W hkN ⟨hi, hl, hd⟩
   have hlt : w.heap.size + 1 < W.heap.size := (Array.getElem?_eq_some_iff.1 hl).1
   have hy := run_yield (P := P) (args := encs k) hl (by rw [hrec]; exact hps k)
   rw [hrec] at hy
   have hbg := run_beginRound (P := P) hl (by rw [hrec])
   have hl2 : (W.putObj (w.heap.size + 1) (.loop { rec .ready none with state := .busy })).heap[w.heap.size + 1]? = some (.loop { rec .ready none with state := .busy }) := World.putObj_heap_same hlt
   have hd2 : (W.putObj (w.heap.size + 1) (.loop { rec .ready none with state := .busy })).heap[w.heap.size]? = some (.deferred (some [])) := (World.putObj_heap_other (by omega)).trans hd
   refine ⟨fn, _, assign, body, hy, roundIn_of_wpIn hfn (wpIn_mono (hround _ k W (W.putObj (w.heap.size + 1) (.loop { rec .ready none with state := .busy })) hkN (hI.putObj _ hi (by omega) hl rfl)) ?_)⟩
   rintro e a2 W' hp2
   cases e with
   | ret => exact hp2.elim
   | exit id => exact hp2.elim
   | goto t => exact hp2.elim
   | panic ch => exact hp2.elim
   | outgrown => exact hp2.elim
   | normal =>
   obtain ⟨rfl, hp2⟩ := hp2
   refine ⟨_, hbg, wpIn_mono hp2 ?_⟩
   rintro e a3 W3 hp
   cases e with
   | normal =>
    obtain ⟨hk3, hkeep, hi3⟩ := hp
    have hl3 := hk3.same _ _ (by omega) hl2 rfl
    have hd3 := hk3.same _ _ (by omega) hd2 rfl
    have hr := run_endRound (P := P) none hl3
    have hlt3 : w.heap.size + 1 < W3.heap.size := (Array.getElem?_eq_some_iff.1 hl3).1
    refine ⟨_, _, hr, .inl ⟨rfl, ⟨hI.putObj _ hi3 (by omega) hl3 rfl, ?_, (World.putObj_heap_other (by omega)).trans hd3⟩, ?_⟩⟩
    · rw [World.putObj_heap_same hlt3, hrec]; rfl
    intro j hj
    have hjl := hK j hj
    rw [World.putObj_heap_other (by omega), hkeep j hj, World.putObj_heap_other (by omega)]
   | ret =>
    obtain ⟨hk3, hi3⟩ := hp
    have hl3 := hk3.same _ _ (by omega) hl2 rfl
    have hd3 := hk3.same _ _ (by omega) hd2 rfl
    have hr := run_endRound (P := P) (some .ret) hl3
    have hlt3 : w.heap.size + 1 < W3.heap.size := (Array.getElem?_eq_some_iff.1 hl3).1
    refine ⟨_, _, hr, .inr ⟨rfl, .ret, hIx.putObj _ hi3 (by omega) hl3 rfl, ?_, (World.putObj_heap_other (by omega)).trans hd3⟩⟩
    rw [World.putObj_heap_same hlt3, hrec]; rfl
   | exit id => exact hp.elim
   | goto t => exact hp.elim
   | panic ch => exact hp.elim
   | outgrown => exact hp.elim
 rintro e W2 ⟨⟨v, rfl⟩, (⟨hi, hl, hd⟩ | ⟨c, hi, hl, hd⟩)⟩
 · exact ⟨none, _, by have := run_endLoop (P := P) hl (by rw [hrec]; simp); rw [hrec] at this; exact this, hdone _ (hI.putObj _ hi (by omega) hl rfl) ((World.putObj_heap_other (by omega)).trans hd)⟩
 exact ⟨some c, _, by have := run_endLoop (P := P) hl (by rw [hrec]; simp); rw [hrec] at this; exact this, hstop c _ (hIx.putObj _ hi (by omega) hl rfl) ((World.putObj_heap_other (by omega)).trans hd)⟩
end Go.Proofs.YtcglcgphgahnpaaGreatDoor
namespace Go.Proofs.YtcglcgphgahnpaaGreatDoor
open Go Go.Proofs Go.RowKit Go.Lib
attribute [local go_sem] Oper.semAt_some
theorem backN_any (a : Option Addr) (n c : Nat) (w : World) :
 Calls Tryz.prog 156 #[.slice a n c] w fun e w' => e = .returned (.func (.func 169) #[] #[.pointer (some ⟨w.heap.size, 0, none⟩)]) ∧ w.alloc (.cells #[.slice a n c] 119) = w' := by
 go_enter Tryz.func156, Tryz.ntmps156
 go_wp2
 go_ret
 exact ⟨rfl, rfl⟩
theorem backN1_in (n l B N cap : Nat) (hN : N ≤ 1099511627776) (zs : List Nat) (hz : zs.length = N) (ad : Option Addr) (K : Nat → Prop) (hKB : K B) (hK : 0 < N → ∀ g o, ad = some ⟨g, o, none⟩ → K g) (J : Nat → World → Prop) (Jx : World → Prop)
 (hY : ∀ k A, k < N → J k A → YieldAt Fence.wide (n - 1) Tryz.prog l #[.int .i64 ((N - 1 - k : Nat) : Int), .int .i64 ((zs.getD (N - 1 - k) 0 : Nat) : Int)] A fun e A' =>
  (e = .returned (.bool true) ∧ J (k + 1) A' ∧ ∀ j, K j → A'.heap[j]? = A.heap[j]?) ∨ (e = .returned (.bool false) ∧ Jx A'))
 (W : World) (hB : W.cell? ⟨B, 0, none⟩ = some (.slice ad N cap)) (hc : HoldI W ad cap zs) (h0 : J 0 W) :
 CallsIn Fence.wide n Tryz.prog 169 #[.func (.yield l) #[] #[], .pointer (some ⟨B, 0, none⟩)] W fun e W' => (∃ v, e = .returned v) ∧ (J N W' ∨ Jx W') := by
 have HH := hid hc; have HZ := hid hz
 clear hc hz
 refine callsIn_of_wp Tryz.func169 rfl trivial ?_ rfl
 simp only [Tryz.ntmps169, List.size_toArray, List.length_cons, List.length_nil, Nat.reduceAdd, Nat.reduceSub, Array.replicate_succ, Array.replicate_zero, List.push_toArray, List.append_toArray, List.nil_append, List.cons_append]
 gi_wp2
 gi_loopw [3] (fun i wr => ∃ k : Nat, k ≤ N ∧ i = .int .i64 ((N : Int) - 1 - k) ∧ J k wr ∧ ∀ j, K j → wr.heap[j]? = W.heap[j]?)
  (fun i _ => (RowKit.intOf i + 1).toNat)
 case atStart => exact ⟨0, Nat.zero_le _, by simp, h0, fun _ _ => rfl⟩
 obtain ⟨k, hk, rfl, hJs, hkeep⟩ := hrel
 have hbx : wr.cell? ⟨B, 0, none⟩ = some (.slice ad N cap) := (World.cell?_of_block (hkeep B hKB)).trans hB
 by_cases hlt : k < N
 · obtain ⟨fn, tmps, assign, body, hy, hR⟩ := hY k wr hlt hJs
   obtain ⟨m, hm⟩ : ∃ m, N - 1 - k = m := ⟨_, rfl⟩
   rw [hm] at hy
   have hmi : (N : Int) - 1 - k = (m : Int) := by omega
   rw [hmi]
   have hm0 : (0 : Int) ≤ (m : Int) := by omega
   have hml : m < zs.length := by rw [HZ.out]; omega
   obtain ⟨g, o, rfl, _, hs⟩ := HH.out.at (by omega)
   have cc := (hs.heq (hkeep g (hK (by omega) g o rfl))) m hml
   obtain ⟨x, hx⟩ : ∃ x, zs.getD m 0 = x := ⟨_, rfl⟩
   rw [hx] at hy cc
   have j1 := fun w => atN g o N cap m (m : Int) rfl (by omega) w
   clear hs hx hml
   gi_wp2
   refine ⟨(fun h => by cases h), hR.mono ?_⟩
   rintro e W3 (⟨rfl, hJ3, hk3⟩ | ⟨rfl, hJx3⟩)
   · gi_wp2
     go_roundw
     case rel => exact ⟨k + 1, by omega, by go_num, hJ3, fun j hj => (hk3 j hj).trans (hkeep j hj)⟩
     case measure => simp [RowKit.intOf]
   gi_wp2
   refine bodyPost_ret (results_none rfl _ _ _) rfl ?_
   exact ⟨⟨_, rfl⟩, .inr hJx3⟩
 obtain rfl : k = N := by omega
 have hneg : ¬ (0 : Int) ≤ (k : Int) - 1 - k := by omega
 gi_wp2
 go_end0
 exact ⟨⟨_, rfl⟩, .inl hJs⟩
theorem backL_any (a : Option Addr) (n c : Nat) (w : World) :
 Calls Tryz.prog 187 #[.slice a n c] w fun e w' => e = .returned (.func (.func 190) #[] #[.pointer (some ⟨w.heap.size, 0, none⟩)]) ∧ w.alloc (.cells #[.slice a n c] 47) = w' := by
 go_enter Tryz.func187, Tryz.ntmps187
 go_wp2
 go_ret
 exact ⟨rfl, rfl⟩
theorem backL1_in (n l B N cap : Nat) (hN : N ≤ 1099511627776) (zs : List Nat) (hz : zs.length = N) (ad : Option Addr) (K : Nat → Prop) (hKB : K B) (hK : 0 < N → ∀ g o, ad = some ⟨g, o, none⟩ → K g) (J : Nat → World → Prop) (Jx : World → Prop)
 (hY : ∀ k A, k < N → J k A → YieldAt Fence.wide (n - 1) Tryz.prog l #[.int .i64 ((N - 1 - k : Nat) : Int), .int .i64 ((zs.getD (N - 1 - k) 0 : Nat) : Int)] A fun e A' =>
  (e = .returned (.bool true) ∧ J (k + 1) A' ∧ ∀ j, K j → A'.heap[j]? = A.heap[j]?) ∨ (e = .returned (.bool false) ∧ Jx A'))
 (W : World) (hB : W.cell? ⟨B, 0, none⟩ = some (.slice ad N cap)) (hc : HoldI W ad cap zs) (h0 : J 0 W) :
 CallsIn Fence.wide n Tryz.prog 190 #[.func (.yield l) #[] #[], .pointer (some ⟨B, 0, none⟩)] W fun e W' => (∃ v, e = .returned v) ∧ (J N W' ∨ Jx W') := by
 have HH := hid hc; have HZ := hid hz
 clear hc hz
 refine callsIn_of_wp Tryz.func190 rfl trivial ?_ rfl
 simp only [Tryz.ntmps190, List.size_toArray, List.length_cons, List.length_nil, Nat.reduceAdd, Nat.reduceSub, Array.replicate_succ, Array.replicate_zero, List.push_toArray, List.append_toArray, List.nil_append, List.cons_append]
 gi_wp2
 gi_loopw [3] (fun i wr => ∃ k : Nat, k ≤ N ∧ i = .int .i64 ((N : Int) - 1 - k) ∧ J k wr ∧ ∀ j, K j → wr.heap[j]? = W.heap[j]?)
  (fun i _ => (RowKit.intOf i + 1).toNat)
 case atStart => exact ⟨0, Nat.zero_le _, by simp, h0, fun _ _ => rfl⟩
 obtain ⟨k, hk, rfl, hJs, hkeep⟩ := hrel
 have hbx : wr.cell? ⟨B, 0, none⟩ = some (.slice ad N cap) := (World.cell?_of_block (hkeep B hKB)).trans hB
 by_cases hlt : k < N
 · obtain ⟨fn, tmps, assign, body, hy, hR⟩ := hY k wr hlt hJs
   obtain ⟨m, hm⟩ : ∃ m, N - 1 - k = m := ⟨_, rfl⟩
   rw [hm] at hy
   have hmi : (N : Int) - 1 - k = (m : Int) := by omega
   rw [hmi]
   have hm0 : (0 : Int) ≤ (m : Int) := by omega
   have hml : m < zs.length := by rw [HZ.out]; omega
   obtain ⟨g, o, rfl, _, hs⟩ := HH.out.at (by omega)
   have cc := (hs.heq (hkeep g (hK (by omega) g o rfl))) m hml
   obtain ⟨x, hx⟩ : ∃ x, zs.getD m 0 = x := ⟨_, rfl⟩
   rw [hx] at hy cc
   have j1 := fun w => atI g o N cap m (m : Int) rfl (by omega) w
   clear hs hx hml
   gi_wp2
   refine ⟨(fun h => by cases h), hR.mono ?_⟩
   rintro e W3 (⟨rfl, hJ3, hk3⟩ | ⟨rfl, hJx3⟩)
   · gi_wp2
     go_roundw
     case rel => exact ⟨k + 1, by omega, by go_num, hJ3, fun j hj => (hk3 j hj).trans (hkeep j hj)⟩
     case measure => simp [RowKit.intOf]
   gi_wp2
   refine bodyPost_ret (results_none rfl _ _ _) rfl ?_
   exact ⟨⟨_, rfl⟩, .inr hJx3⟩
 obtain rfl : k = N := by omega
 have hneg : ¬ (0 : Int) ≤ (k : Int) - 1 - k := by omega
 gi_wp2
 go_end0
 exact ⟨⟨_, rfl⟩, .inl hJs⟩
end Go.Proofs.YtcglcgphgahnpaaGreatDoor
namespace Go.Proofs.YtcglcgphgahnpaaGreatDoor
open Go Go.Proofs Go.RowKit Go.Lib
attribute [local go_sem] Oper.semAt_some
theorem results_cell1 {fn : Func} {p : Tmp} {ty : TypeId} (h : fn.results = #[.cell p ty]) (tmps : Array Value) (P : Program) (w : World) :
 (results fn tmps).run P w = ((asAddr (tmps.getD p undef)).run P w).andThen fun a w₁ => (loadVar ty a).run P w₁ := by
 simp only [results, h]
 simp [Sem.run_bind]
theorem below_collected {n : Nat} {w W : World} {D : Nat} {ob : Obj} (h : Below n w W) (hn : n ≤ D) (hD : W.heap[D]? = some ob) (o' : Obj) : Below n w (W.putObj D o') :=
 h.trans ((Below.refl n W).grown (grownBy_putObj' W D o') (by have := (Array.getElem?_eq_some_iff.1 hD).1; omega) (fun k e => by cases e; omega))
theorem keeps_same {R : Nat} {W W' : World} (hs : W.heap.size ≤ W'.heap.size) (h : ∀ j, j < W.heap.size → W'.heap[j]? = W.heap[j]?) : KeepsFrom R W W' :=
 ⟨hs, fun j _ _ hj _ => (h j (Array.getElem?_eq_some_iff.1 hj).1).trans hj⟩
theorem HoldI.same {w W : World} {ad : Option Addr} {cap : Nat} {l : List Nat} (h : HoldI w ad cap l) (hold : ∀ j, j < w.heap.size → W.heap[j]? = w.heap[j]?) : HoldI W ad cap l := by
 obtain ⟨h1, h2, h3⟩ := h
 refine ⟨h1, h2, h3.imp id ?_⟩
 rintro ⟨g, o, e, hg, hn⟩
 refine ⟨g, o, e, ?_, hn.heq (hold g hg)⟩
 rcases Nat.lt_or_ge g W.heap.size with h | h
 · exact h
 have e1 := hold g hg
 rw [Array.getElem?_eq_none h] at e1
 have e2 := (Array.getElem?_eq_none_iff.1 e1.symm)
 omega
def sgnZ (a b : Int) : Int := if a < b then -1 else if b < a then 1 else 0
theorem cmpC_any (a b : Int) (w : World) : Calls Tryz.prog 160 #[.int .i64 a, .int .i64 b] w fun e w' => e = .returned (.int .i64 (sgnZ a b)) ∧ w = w' := by
 by_cases h1 : a < b
 · have e : sgnZ a b = -1 := by unfold sgnZ; rw [if_pos h1]
   rw [e]
   go_enter Tryz.func160, Tryz.ntmps160
   go_wp2
   go_ret
   exact ⟨rfl, rfl⟩
 by_cases h2 : b < a
 · have e : sgnZ a b = 1 := by unfold sgnZ; rw [if_neg h1, if_pos h2]
   rw [e]
   go_enter Tryz.func160, Tryz.ntmps160
   go_wp2
   go_ret
   exact ⟨rfl, rfl⟩
 have e : sgnZ a b = 0 := by unfold sgnZ; rw [if_neg h1, if_neg h2]
 rw [e]
 go_enter Tryz.func160, Tryz.ntmps160
 go_wp2
 go_ret
 exact ⟨rfl, rfl⟩
theorem compare_in (n x y : Nat) (ad1 ad2 : Option Addr) (c1 c2 n1 n2 : Nat) (w : World) (h1 : NatAt w ad1 n1 c1 x) (h2 : NatAt w ad2 n2 c2 y) :
 CallsIn Fence.wide n Tryz.prog 142 #[.slice ad1 n1 c1, .slice ad2 n2 c2] w fun e w' => e = .returned (.int .i64 (cmpI x y)) ∧ Below w.heap.size w w' := by
 obtain ⟨e1, H1⟩ := h1
 obtain ⟨e2, H2⟩ := h2
 have ha := grps_lt x
 have hb := grps_lt y
 have va := valG_grps x
 have vb := valG_grps y
 have l1 := fun h => lenG_lt (m := x) (n := y) h
 have l2 := fun h => lenG_lt (m := y) (n := x) h
 obtain ⟨a, hae⟩ : ∃ a, grps x = a := ⟨_, rfl⟩
 obtain ⟨b, hbe⟩ : ∃ b, grps y = b := ⟨_, rfl⟩
 rw [hae] at ha va H1 e1 l1 l2
 rw [hbe] at hb vb H2 e2 l1 l2
 rw [e1, e2] at l1 l2
 have hlen1 : n1 ≤ 1099511627776 := by have := H1.2.1; omega
 have hlen2 : n2 ≤ 1099511627776 := by have := H2.2.1; omega
 obtain ⟨R, hR⟩ : ∃ R, cmpI x y = R := ⟨_, rfl⟩
 rw [hR]
 have hlt : x < y → R = -1 := fun h => by rw [← hR]; unfold cmpI; rw [if_pos h]
 have hgt : y < x → R = 1 := fun h => by rw [← hR]; unfold cmpI; rw [if_neg (by omega), if_pos h]
 have heq : x = y → R = 0 := fun h => by rw [← hR]; unfold cmpI; rw [if_neg (by omega), if_neg (by omega)]
 clear hR hae hbe
 by_cases hnn : n1 = n2
 · subst hnn
   have hz : ((n1 : Int) != (n1 : Int)) = false := by simp
   have hend : a.drop 0 = b.drop 0 → R = 0 := fun h => heq (by rw [← va, ← vb]; simp only [List.drop_zero] at h; rw [h])
   have hdf : ∀ m, m < n1 → a.drop (m + 1) = b.drop (m + 1) → (a.getD m 0 = b.getD m 0 → a.drop m = b.drop m) ∧ (a.getD m 0 ≠ b.getD m 0 → sgnZ ((a.getD m 0 : Nat) : Int) ((b.getD m 0 : Nat) : Int) = R) := by
    intro m hm hd
    refine ⟨dropG_next m (by omega) (by omega) hd, fun hne => ?_⟩
    unfold sgnZ
    rcases Nat.lt_or_ge (a.getD m 0) (b.getD m 0) with h | h
    · rw [if_pos (by omega), hlt (by rw [← va, ← vb]; exact topG_lt ha m (by omega) (by omega) hd h)]
    rw [if_neg (by omega), if_pos (by omega), hgt (by rw [← va, ← vb]; exact topG_lt hb m (by omega) (by omega) hd.symm (by omega))]
   obtain ⟨W0, hW0⟩ : ∃ W0, ((w.alloc (.cells #[.slice ad2 n1 c2] 119)).alloc (.cells #[.int .i64 0] 3)).alloc (.cells #[.slice ad1 n1 c1] 119) = W0 := ⟨_, rfl⟩
   have hsz : W0.heap.size = w.heap.size + 3 := by rw [← hW0]; simp
   have hbel : Below w.heap.size w W0 := by rw [← hW0]; exact (((Below.refl _ _).alloc (Nat.le_refl _) _).alloc (by simp) _).alloc (by simp; omega) _
   have hb0 : Boxed W0 w.heap.size 119 (.slice ad2 n1 c2) := by rw [← hW0]; exact ((Boxed.new w _ _).alloc _).alloc _
   have hb1 : Boxed W0 (w.heap.size + 1) 3 (.int .i64 0) := by
    rw [← hW0]
    have := Boxed.new (w.alloc (.cells #[.slice ad2 n1 c2] 119)) 3 (.int .i64 0)
    rw [World.size_alloc] at this
    exact this.alloc _
   have hb2 : Boxed W0 (w.heap.size + 2) 119 (.slice ad1 n1 c1) := by
    rw [← hW0]
    have := Boxed.new ((w.alloc (.cells #[.slice ad2 n1 c2] 119)).alloc (.cells #[.int .i64 0] 3)) 119 (.slice ad1 n1 c1)
    rw [World.size_alloc, World.size_alloc] at this
    exact this
   have hH1 := H1.below hbel (Nat.le_refl _)
   have hstart : a.drop (n1 - 0) = b.drop (n1 - 0) := by rw [List.drop_of_length_le (by omega), List.drop_of_length_le (by omega)]
   have HW0 := hid hW0; have HEND := hid hend; have HDF := hid hdf; have HB0 := hid hb0; have HB1 := hid hb1; have HB2 := hid hb2; have HBL := hid hbel; have HH1 := hid hH1; have HH2 := hid H2; have E1 := hid e1; have E2 := hid e2; have HSTART := hid hstart
   have HK0 := hid H1
   clear hW0 hend hdf hb0 hb1 hb2 hbel hH1 H1 H2 e1 e2 hstart hlt hgt heq l1 l2 ha hb va vb
   refine callsIn_of_wp_marks Tryz.func142 rfl trivial ?_ rfl
   simp only [Tryz.ntmps142, List.size_toArray, List.length_cons, List.length_nil, Nat.reduceAdd, Nat.reduceSub, Array.replicate_succ, Array.replicate_zero, List.push_toArray, List.append_toArray, List.nil_append, List.cons_append]
   gi_wp2_with (refine ⟨trivial, (fun h => by cases h), ?_⟩; gi_at_call 156; refine (callsIn_wide.2 (backN_any _ _ _ _)).mono ?_; rintro e w' ⟨rfl, rfl⟩)
   rw [HW0.out]
   refine rangeFunc_nat (gf := 169) (lb := #[.pointer (some ⟨w.heap.size + 2, 0, none⟩)]) rfl (enters_of Tryz.func169 (by kernel_rfl) rfl)
    n1 (fun k => #[Value.int .i64 ((n1 - 1 - k : Nat) : Int), Value.int .i64 ((a.getD (n1 - 1 - k) 0 : Nat) : Int)]) (fun _ => rfl) (fun j => j < w.heap.size ∨ j = w.heap.size + 2) (fun j hj => by omega)
    ?seq (fun k W => (Boxed W w.heap.size 119 (.slice ad2 n1 c2) ∧ Boxed W (w.heap.size + 1) 3 (.int .i64 0) ∧ a.drop (n1 - k) = b.drop (n1 - k)) ∧ Below w.heap.size w W)
    (fun c W => (c = .ret ∧ Boxed W (w.heap.size + 1) 3 (.int .i64 R)) ∧ Below w.heap.size w W) ?own ?ownx ⟨⟨HB0.out, HB1.out, HSTART.out⟩, HBL.out⟩ ?round ?done ?stop
   case seq =>
    intro l J Jx W hY hJ hold
    refine backN1_in (n - 1) l (w.heap.size + 2) n1 c1 hlen1 a E1.out ad1 _ (.inr rfl) ?_ J Jx hY W ((World.cell?_of_block (hold (w.heap.size + 2) (by omega))).trans HB2.out.cell) ?_ hJ
    · rintro h0 g o rfl
      obtain ⟨g', o', e, hg, _⟩ := HK0.out.at (by rw [E1.out]; exact h0)
      cases e
      exact .inl hg
    exact HH1.out.same hold
   case own => exact OwnFrom.and (OwnFrom.and ((boxed_own _ _ _).from _) (OwnFrom.and ((boxed_own _ _ _).from _) (fun _ _ _ _ h _ _ => h))) (ownFrom_below (Nat.le_refl _) (by omega))
   case ownx => exact OwnFrom.and (OwnFrom.and (fun _ _ _ _ h _ _ => h) ((boxed_own _ _ _).from _)) (ownFrom_below (Nat.le_refl _) (by omega))
   case round =>
    rintro l k W W2 hk ⟨⟨bx0, bx1, hd⟩, hbl⟩
    gi_wp2
    refine ⟨trivial, ?_⟩
    obtain ⟨m, hm⟩ : ∃ m, n1 - 1 - k = m := ⟨_, rfl⟩
    have hm1 : n1 - k = m + 1 := by omega
    rw [hm]
    rw [hm1] at hd
    have hml : m < n1 := by omega
    have hx := HDF.out m hml hd
    have hmb : m < b.length := by rw [E2.out]; exact hml
    obtain ⟨g2, o2, rfl, hg2, hs2⟩ := HH2.out.at (by omega)
    have cb := (hs2.below hbl hg2) m hmb
    have j2 := fun w => atN g2 o2 n1 c2 m (m : Int) rfl hml w
    have c0 := bx0.cell
    have c1' := bx1.cell
    have f1' := bx1.frozen
    obtain ⟨x', hx'⟩ : ∃ z, a.getD m 0 = z := ⟨_, rfl⟩
    obtain ⟨y', hy'⟩ : ∃ z, b.getD m 0 = z := ⟨_, rfl⟩
    rw [hx', hy'] at hx
    rw [hy'] at cb
    rw [show a[m]?.getD 0 = x' by rw [← List.getD_eq_getElem?_getD]; exact hx']
    have HX := hid hx; have BX0 := hid bx0; have BX1 := hid bx1; have HBW := hid hbl
    have hmk : m = n1 - (k + 1) := by omega
    have HMK := hid hmk
    clear hx hd hs2 hmb hx' hy' bx0 bx1 hm hm1 hmk
    by_cases hxy : x' = y'
    · have e1 : ((x' : Int) != (y' : Int)) = false := by rw [bne_eq_false_iff_eq]; omega
      have hd2 := HX.out.1 hxy
      have HD2 := hid hd2
      clear hd2 hxy
      gi_wp2
      exact ⟨KeepsFrom.refl _ _, fun _ _ => rfl, ⟨BX0.out, BX1.out, by rw [← HMK.out]; exact HD2.out⟩, HBW.out⟩
    have e1 : ((x' : Int) != (y' : Int)) = true := by rw [bne_iff_ne]; omega
    have cc := fun W => cmpC_any (x' : Int) (y' : Int) W
    rw [HX.out.2 hxy] at cc
    have CC := hid cc
    clear cc hxy
    gi_wp2_with (refine ⟨trivial, (fun h => by cases h), ?_⟩; gi_at_call 160; refine CallsIn.inRound l ((callsIn_wide.2 (CC.out _)).mono ?_); rintro e w' ⟨rfl, rfl⟩)
    exact ⟨(KeepsOthers.setCell _ _ _).from _, ⟨rfl, BX1.out.set _⟩, HBW.out.setCell (p := ⟨w.heap.size + 1, 0, none⟩) (by simp) _⟩
   case done =>
    rintro W ⟨⟨_, bx1, hd⟩, hbl⟩ hD
    rw [hsz] at hD
    have hR0 : R = 0 := HEND.out (by rw [Nat.sub_self] at hd; exact hd)
    subst hR0
    have c1' := bx1.cell
    have f1' := bx1.frozen
    have hD2 : (W.setCell ⟨w.heap.size + 1, 0, none⟩ (.int .i64 0)).heap[w.heap.size + 3]? = some (.deferred (some [])) := (Below.heap_setCell _ _ _ _ (by show w.heap.size + 3 ≠ w.heap.size + 1; omega)).trans hD
    have BX := hid (bx1.set (.int .i64 0)); have HD2 := hid hD2; have HBW := hid (hbl.setCell (p := ⟨w.heap.size + 1, 0, none⟩) (by simp) (.int .i64 0))
    clear hD2 hD hd bx1 hbl
    dsimp only
    gi_wp2
    refine ⟨by simp, .inl ⟨_, _, rfl, run_takeDeferred HD2.out, ?_⟩⟩
    have c5 := cell_kept BX.out.cell (grownBy_putObj' _ (w.heap.size + 3) (.deferred none)) (fun r e => by cases e; exact ⟨_, HD2.out, rfl⟩)
    refine ⟨.int .i64 0, ?_, rfl, below_collected HBW.out (by omega) HD2.out _⟩
    rw [results_cell1 rfl]
    simp [go_sem, c5]
   case stop =>
    rintro c W ⟨⟨rfl, bx1⟩, hbl⟩ hD
    have BX := hid bx1; have HD2 := hid hD; have HBW := hid hbl
    clear hD bx1 hbl
    dsimp only
    gi_wp2
    refine ⟨by simp, .inl ⟨_, _, rfl, run_takeDeferred HD2.out, ?_⟩⟩
    have c5 := cell_kept BX.out.cell (grownBy_putObj' _ (W0.heap.size) (.deferred none)) (fun r e => by cases e; exact ⟨_, HD2.out, rfl⟩)
    refine ⟨.int .i64 R, ?_, rfl, below_collected HBW.out (by omega) HD2.out _⟩
    rw [results_cell1 rfl]
    simp [go_sem, c5]
 have hz : ((n1 : Int) != (n2 : Int)) = true := by rw [bne_iff_ne]; omega
 have hs : sgnZ (n1 : Int) (n2 : Int) = R := by
  unfold sgnZ
  by_cases h : n1 < n2
  · rw [if_pos (by omega), hlt (l1 h)]
  rw [if_neg (by omega), if_pos (by omega), hgt (l2 (by omega))]
 have cc := fun W => cmpC_any (n1 : Int) (n2 : Int) W
 rw [hs] at cc
 have CC := hid cc
 clear cc hs hlt hgt heq l1 l2 ha hb va vb H1 H2 e1 e2 hnn
 refine callsIn_wide.2 ?_
 go_enter Tryz.func142, Tryz.ntmps142
 go_wp2_with fail
 refine (CC.out _).mono ?_
 rintro e w1 ⟨rfl, rfl⟩
 go_wp2
 refine bodyPost_ret (v := .int .i64 R) ?_ rfl ⟨rfl, ?_⟩
 · rw [results_cell1 rfl]
   simp [go_sem]
 first
  | exact ((Below.refl _ _).alloc (Nat.le_refl _) _).alloc (by simp) _
  | exact (((Below.refl _ _).alloc (Nat.le_refl _) _).alloc (by simp) _).setCell (by simp) _
theorem compare_any (x y : Nat) (ad1 ad2 : Option Addr) (c1 c2 n1 n2 : Nat) (w : World) (h1 : NatAt w ad1 n1 c1 x) (h2 : NatAt w ad2 n2 c2 y) :
 Calls Tryz.prog 142 #[.slice ad1 n1 c1, .slice ad2 n2 c2] w fun e w' => e = .returned (.int .i64 (cmpI x y)) ∧ Below w.heap.size w w' :=
 callsIn_wide.1 (compare_in 0 x y ad1 ad2 c1 c2 n1 n2 w h1 h2)
theorem less_any (x y : Nat) (ad1 ad2 : Option Addr) (c1 c2 n1 n2 : Nat) (w : World) (h1 : NatAt w ad1 n1 c1 x) (h2 : NatAt w ad2 n2 c2 y) :
 Calls Tryz.prog 147 #[.slice ad1 n1 c1, .slice ad2 n2 c2] w fun e w' => e = .returned (.bool (decide (x < y))) ∧ Below w.heap.size w w' := by
 have c := fun W (e : w = W) => compare_any x y ad1 ad2 c1 c2 n1 n2 W (by rw [← e]; exact h1) (by rw [← e]; exact h2)
 have hd : decide (cmpI x y < 0) = decide (x < y) := by
  rw [decide_eq_decide]; unfold cmpI; split <;> (try split) <;> omega
 obtain ⟨q, hq⟩ : ∃ q, cmpI x y = q := ⟨_, rfl⟩
 rw [hq] at c hd
 have C := hid c; have HD := hid hd
 clear c hd hq h1 h2
 go_enter Tryz.func147, Tryz.ntmps147
 go_wp2_with fail
 refine (C.out _ rfl).mono ?_
 rintro e w1 ⟨rfl, b1⟩
 go_wp2
 go_ret
 exact ⟨ret_bool HD.out, b1⟩
end Go.Proofs.YtcglcgphgahnpaaGreatDoor
namespace Go.Proofs.YtcglcgphgahnpaaGreatDoor
open Go Go.Proofs Go.RowKit Go.Lib
theorem grps_len_cons (d s : Nat) (hd : d < 10000) : (grps (d + 10000 * s)).length ≤ (grps s).length + 1 := by
 apply grps_length_le
 have h := (grps_length_iff (grps s).length s).1 (Nat.le_refl _)
 rw [Nat.pow_succ]
 omega
theorem times1_any (s n d : Nat) (hd : d < 10000) (B : Nat) (adn ad : Option Addr) (mn cn m c : Nat) (w : World) (hB : w.cell? ⟨B, 0, none⟩ = some (.slice adn mn cn)) (hBl : B < w.heap.size) (hn : NatAt w adn mn cn n) (hs : NatAt w ad m c s) (hm : m ≤ 900) (hmn : mn ≤ 900) :
 Calls Tryz.prog 176 #[.slice ad m c, .int .i64 (d : Nat), .pointer (some ⟨B, 0, none⟩)] w (NatPost w (d * n + 10000 * s)) := by
 have c1 : ∀ W, Below w.heap.size w W → Calls Tryz.prog 157 #[.slice ad m c, .int .i64 0] W (NatPost W (0 + 10000 * s)) := fun W b => followed_any s 0 (by decide) ad c m W (hs.below b (Nat.le_refl _)) (by omega)
 have c2 := fun W0 W (b0 : Below w.heap.size w W0) (b : Below W0.heap.size W0 W) ad' c' m' (hm' : (grps (0 + 10000 * s)).length = m') (hh : HoldI W0 ad' c' (grps (0 + 10000 * s))) =>
  plus_any3 (0 + 10000 * s) n (d * n + 10000 * s) (d : Int) (by omega) (by omega) (by rw [Int.natCast_add, Int.natCast_add, Int.natCast_mul, Int.natCast_mul]; simp; omega) ad' adn c' cn m' mn W ⟨hm', hh.below b (Nat.le_refl _)⟩ (hn.below (b0.trans (b.mono b0.size)) (Nat.le_refl _))
   (by have := grps_len_cons 0 s (by decide); have := hs.1; omega) (by omega)
 have hkeep : ∀ W, Below w.heap.size w W → W.cell? ⟨B, 0, none⟩ = some (.slice adn mn cn) := fun W b => (b.cell (p := ⟨B, 0, none⟩) hBl).trans hB
 have C1 := hid c1; have C2 := hid c2; have HK := hid hkeep
 clear c1 c2 hkeep hn hs
 go_enter Tryz.func176, Tryz.ntmps176
 go_wp2_with fail
 go_region_held3 (fun W => W.cell? ⟨B, 0, none⟩ = some (.slice adn mn cn)) (first | exact HK.out _ ⟨rfl, rfl, rfl, Nat.le_refl _, fun _ _ => rfl⟩ | exact HK.out _ ⟨hb1.os, hb1.tape, hb1.output, hb1.size, hb1.block⟩ | exact HK.out _ ⟨hb2.os, hb2.tape, hb2.output, hb2.size, hb2.block⟩)
  (first | (go_at_call 157; (with_reducible refine (C1.out _ ?_).mono ?_); exact ⟨rfl, rfl, rfl, Nat.le_refl _, fun _ _ => rfl⟩; rintro e w1 ⟨ad1, cap1, m1, rfl, hm1, hh1, hb1'⟩; have hb1 : Below w.heap.size w w1 := ⟨hb1'.os, hb1'.tape, hb1'.output, hb1'.size, hb1'.block⟩) | (go_at_call 140; (with_reducible refine (C2.out w1 _ hb1 ?_ _ _ _ hm1 hh1).mono ?_); exact ⟨rfl, rfl, rfl, Nat.le_refl _, fun _ _ => rfl⟩; rintro e w2 ⟨ad2, cap2, m2, rfl, hm2, hh2, hb2'⟩; have hb2 : Below w.heap.size w w2 := ⟨hb2'.os.trans hb1.os, hb2'.tape.trans hb1.tape, hb2'.output.trans hb1.output, Nat.le_trans hb1.size hb2'.size, fun k hk => (hb2'.block k (Nat.lt_of_lt_of_le hk hb1.size)).trans (hb1.block k hk)⟩))
 all_goals (
  go_wp2
  go_ret
  exact ⟨ad2, cap2, m2, rfl, hm2, hh2, hb2⟩)
end Go.Proofs.YtcglcgphgahnpaaGreatDoor
namespace Go.Proofs.YtcglcgphgahnpaaGreatDoor
open Go Go.Proofs Go.RowKit Go.Lib
attribute [local go_sem] Oper.semAt_some
theorem holdI_kept {A B : World} {row : Option Nat} {ad : Option Addr} {cap : Nat} {l : List Nat} (h : HoldI A ad cap l) (hg : A.grownBy B row) (hr : ∀ r, row = some r → ∃ o : Obj, A.heap[r]? = some o ∧ o.isCells = false) : HoldI B ad cap l := by
 obtain ⟨h1, h2, h3⟩ := h
 refine ⟨h1, h2, h3.imp id ?_⟩
 rintro ⟨g, o, e, hlt, hn⟩
 exact ⟨g, o, e, Nat.lt_of_lt_of_le hlt hg.size, fun j hj => cell_kept (hn j hj) hg hr⟩
theorem natBox_own {β : Type} (b : Nat) (t : TypeId) (S : β → Nat) : Own (fun (s : β) W => ∃ ad m c, Boxed W b t (.slice ad m c) ∧ NatAt W ad m c (S s)) := by
 rintro s A B row ⟨ad, m, c, hb, hm, hh⟩ hg hr
 exact ⟨ad, m, c, hb.kept hg (fun e => by obtain ⟨o, ho, hc⟩ := hr b e.symm; rw [show A.heap[b]? = _ from hb] at ho; cases ho; cases hc), hm, holdI_kept hh hg hr⟩
theorem size_own {β : Type} (B k : Nat) : OwnFrom B (fun (_ : β) W => k ≤ W.heap.size) := fun _ _ _ _ h hg _ => Nat.le_trans h hg.size
theorem HoldI.storeBox {W : World} {ad : Option Addr} {c : Nat} {l : List Nat} (h : HoldI W ad c l) {B : Nat} {t : TypeId} {a : Option Addr} {m k : Nat} (hb : Boxed W B t (.slice a m k)) (v : Value) : HoldI (W.setCell ⟨B, 0, none⟩ v) ad c l := by
 obtain ⟨h1, h2, h3⟩ := h
 refine ⟨h1, h2, ?_⟩
 by_cases h0 : l = []
 · exact .inl h0
 obtain ⟨g, o, rfl, hg, hn⟩ := h3.resolve_left h0
 right
 have hne : g ≠ B := by
  rintro rfl
  have h4 := hn 0 (List.length_pos_iff.2 h0)
  have h5 : W.heap[g]? = some (.cells #[.slice a m k] t (0, 0)) := hb
  simp only [World.cell?, h5] at h4
  by_cases ho : o = 0
  · subst ho; simp at h4
  have : (#[Value.slice a m k] : Array Value)[o + 0]? = none := Array.getElem?_eq_none (by simp; omega)
  rw [this] at h4; cases h4
 exact ⟨g, o, rfl, by simpa using hg, hn.heq (Below.heap_setCell W ⟨B, 0, none⟩ v g hne)⟩
theorem calls_keep {R : Nat} {W W' : World} (h : Below W.heap.size W W') : KeepsFrom R W W' := keeps_same h.size h.block
theorem foldN_in (n N : Nat) (l : List Nat) (hl : l.length = N) (ad0 : Option Addr) (cap0 : Nat) (S : Nat → Nat) (ads : Option Addr) (ms cs : Nat) (w : World) (hh : HoldI w ad0 cap0 l) (hs0 : NatAt w ads ms cs (S 0)) (Bn : Nat)
 (hstep : ∀ k W ad m c, k < N → Below w.heap.size w W → NatAt W ad m c (S k) → Calls Tryz.prog 176 #[.slice ad m c, .int .i64 ((l.getD (N - 1 - k) 0 : Nat) : Int), .pointer (some ⟨Bn, 0, none⟩)] W (NatPost W (S (k + 1)))) :
 CallsIn Fence.wide n Tryz.prog 175 #[.slice ad0 N cap0, .slice ads ms cs, .func (.func 176) #[] #[.pointer (some ⟨Bn, 0, none⟩)]] w (NatPost w (S N)) := by
 have hN : N ≤ 1099511627776 := by have := hh.2.1; omega
 obtain ⟨W0, hW0⟩ : ∃ W0, ((w.alloc (.cells #[.slice ads ms cs] 119)).alloc (.cells #[.func (.func 176) #[] #[.pointer (some ⟨Bn, 0, none⟩)]] 146)).alloc (.cells #[.slice ad0 N cap0] 47) = W0 := ⟨_, rfl⟩
 have hsz : W0.heap.size = w.heap.size + 3 := by rw [← hW0]; simp
 have hbel : Below w.heap.size w W0 := by rw [← hW0]; exact (((Below.refl _ _).alloc (Nat.le_refl _) _).alloc (by simp) _).alloc (by simp; omega) _
 have hb0 : Boxed W0 w.heap.size 119 (.slice ads ms cs) := by rw [← hW0]; exact ((Boxed.new w _ _).alloc _).alloc _
 have hb1 : Boxed W0 (w.heap.size + 1) 146 (.func (.func 176) #[] #[.pointer (some ⟨Bn, 0, none⟩)]) := by
  rw [← hW0]
  have := Boxed.new (w.alloc (.cells #[.slice ads ms cs] 119)) 146 (.func (.func 176) #[] #[.pointer (some ⟨Bn, 0, none⟩)])
  rw [World.size_alloc] at this
  exact this.alloc _
 have hb2 : Boxed W0 (w.heap.size + 2) 47 (.slice ad0 N cap0) := by
  rw [← hW0]
  have := Boxed.new ((w.alloc (.cells #[.slice ads ms cs] 119)).alloc (.cells #[.func (.func 176) #[] #[.pointer (some ⟨Bn, 0, none⟩)]] 146)) 47 (.slice ad0 N cap0)
  rw [World.size_alloc, World.size_alloc] at this
  exact this
 have hH1 := hh.below hbel (Nat.le_refl _)
 have HW0 := hid hW0; have HB0 := hid hb0; have HB1 := hid hb1; have HB2 := hid hb2; have HBL := hid hbel; have HH1 := hid hH1; have HH := hid hh; have HL := hid hl; have HSTEP := hid hstep; have HS0 := hid hs0
 clear hW0 hb0 hb1 hb2 hbel hH1 hh hl hstep hs0
 refine callsIn_of_wp_marks Tryz.func175 rfl trivial ?_ rfl
 simp only [Tryz.ntmps175, List.size_toArray, List.length_cons, List.length_nil, Nat.reduceAdd, Nat.reduceSub, Array.replicate_succ, Array.replicate_zero, List.push_toArray, List.append_toArray, List.nil_append, List.cons_append]
 gi_wp2_with (refine ⟨trivial, (fun h => by cases h), ?_⟩; gi_at_call 187; refine (callsIn_wide.2 (backL_any _ _ _ _)).mono ?_; rintro e w' ⟨rfl, rfl⟩)
 rw [HW0.out]
 refine rangeFunc_nat (gf := 190) (lb := #[.pointer (some ⟨w.heap.size + 2, 0, none⟩)]) rfl (enters_of Tryz.func190 (by kernel_rfl) rfl)
  N (fun k => #[Value.int .i64 ((N - 1 - k : Nat) : Int), Value.int .i64 ((l.getD (N - 1 - k) 0 : Nat) : Int)]) (fun _ => rfl) (fun j => j < w.heap.size ∨ j = w.heap.size + 2) (fun j hj => by omega)
  ?seq (fun k W => (((∃ ad m c, Boxed W w.heap.size 119 (.slice ad m c) ∧ NatAt W ad m c (S k)) ∧ Boxed W (w.heap.size + 1) 146 (.func (.func 176) #[] #[.pointer (some ⟨Bn, 0, none⟩)])) ∧ w.heap.size + 3 ≤ W.heap.size) ∧ Below w.heap.size w W)
  (fun _ _ => False) ?own (fun _ _ _ _ h _ _ => h) ⟨⟨⟨⟨ads, ms, cs, HB0.out, HS0.out.below HBL.out (Nat.le_refl _)⟩, HB1.out⟩, by omega⟩, HBL.out⟩ ?round ?done (fun _ _ h _ => h.elim)
 case seq =>
  intro l' J Jx W hY hJ hold
  refine backL1_in (n - 1) l' (w.heap.size + 2) N cap0 hN l HL.out ad0 _ (.inr rfl) ?_ J Jx hY W ((World.cell?_of_block (hold (w.heap.size + 2) (by omega))).trans HB2.out.cell) ?_ hJ
  · rintro h0 g o rfl
    obtain ⟨g', o', e, hg, _⟩ := HH.out.at (by rw [HL.out]; exact h0)
    cases e
    exact .inl hg
  exact HH1.out.same hold
 case own => exact OwnFrom.and (OwnFrom.and (OwnFrom.and ((natBox_own w.heap.size 119 S).from _) ((boxed_own _ _ _).from _)) (size_own _ _)) (ownFrom_below (Nat.le_refl _) (by omega))
 case round =>
  rintro l' k W W2 hk ⟨⟨⟨⟨ad, m, c, bx0, hna⟩, bx1⟩, hsw⟩, hbl⟩
  gi_wp2
  refine ⟨trivial, ?_⟩
  have cs := HSTEP.out k W2 ad m c hk hbl hna
  obtain ⟨d, hd⟩ : ∃ d, l.getD (N - 1 - k) 0 = d := ⟨_, rfl⟩
  rw [hd] at cs
  rw [show l[N - 1 - k]?.getD 0 = d by rw [← List.getD_eq_getElem?_getD]; exact hd]
  have c0 := bx0.cell
  have f0 := bx0.frozen
  have c1' := bx1.cell
  have CS := hid cs; have BX0 := hid bx0; have BX1 := hid bx1; have HBW := hid hbl
  clear cs bx0 bx1 hbl hd hna
  gi_wp2_with fail
  refine ⟨trivial, (fun h => by cases h), CallsIn.inRound l' ((callsIn_wide.2 CS.out).mono ?_)⟩
  rintro e w3 ⟨ad3, cap3, m3, rfl, hm3, hh3, hb3⟩
  have c03 := (hb3.cell (p := ⟨w.heap.size, 0, none⟩) BX0.out.lt).trans c0
  have bx3 : Boxed w3 w.heap.size 119 (.slice ad m c) := (hb3.block _ BX0.out.lt).trans BX0.out
  have bx13 : Boxed w3 (w.heap.size + 1) 146 (.func (.func 176) #[] #[.pointer (some ⟨Bn, 0, none⟩)]) := (hb3.block _ BX1.out.lt).trans BX1.out
  have f03 := bx3.frozen
  have BX3 := hid bx3; have BX13 := hid bx13; have HH3 := hid hh3; have HB3 := hid hb3
  clear bx3 bx13 hh3 hb3
  gi_wp2
  refine ⟨(calls_keep HB3.out).trans ((KeepsOthers.setCell _ _ _).from _), fun j hj => ?_, ⟨⟨⟨ad3, m3, cap3, BX3.out.set _, hm3, HH3.out.storeBox BX3.out _⟩, BX13.out.other (by omega) _⟩, by simpa using Nat.le_trans hsw HB3.out.size⟩, (HBW.out.trans (HB3.out.mono HBW.out.size)).setCell (p := ⟨w.heap.size, 0, none⟩) (Nat.le_refl _) _⟩
  · have hjl : j < W2.heap.size := by rcases hj with h | h <;> omega
    exact (Below.heap_setCell _ _ _ _ (by show j ≠ w.heap.size; rcases hj with h | h <;> omega)).trans (HB3.out.block j hjl)
 case done =>
  rintro W ⟨⟨⟨⟨ad, m, c, bx0, hna⟩, _⟩, _⟩, hbl⟩ hD
  have c0 := bx0.cell
  obtain ⟨hm, hh⟩ := hna
  have HH3 := hid hh; have HD2 := hid hD; have HBW := hid hbl
  clear hD bx0 hbl hh
  dsimp only
  gi_wp2
  refine ⟨by simp, .inl ⟨_, _, rfl, run_takeDeferred HD2.out, ?_⟩⟩
  exact ⟨_, results_tmp rfl _ _ _, ad, c, m, rfl, hm, holdI_kept HH3.out (grownBy_putObj' _ W0.heap.size (.deferred none)) (fun r e => by cases e; exact ⟨_, HD2.out, rfl⟩), below_collected HBW.out (by omega) HD2.out _⟩
end Go.Proofs.YtcglcgphgahnpaaGreatDoor
namespace Go.Proofs.YtcglcgphgahnpaaGreatDoor
open Go Go.Proofs Go.RowKit Go.Lib
attribute [local go_sem] Oper.semAt_some
theorem foldI_in (n N : Nat) (l : List Nat) (hl : l.length = N) (ad0 : Option Addr) (cap0 : Nat) (S : Nat → Nat) (w : World) (hh : HoldI w ad0 cap0 l) (hstep : ∀ k W, k < N → Below w.heap.size w W → Calls Tryz.prog 183 #[.int .i64 ((S k : Nat) : Int), .int .i64 ((l.getD (N - 1 - k) 0 : Nat) : Int)] W fun e W' => e = .returned (.int .i64 ((S (k + 1) : Nat) : Int)) ∧ W = W') :
 CallsIn Fence.wide n Tryz.prog 182 #[.slice ad0 N cap0, .int .i64 ((S 0 : Nat) : Int), .func (.func 183) #[] #[]] w fun e w' => e = .returned (.int .i64 ((S N : Nat) : Int)) ∧ Below w.heap.size w w' := by
 have hN : N ≤ 1099511627776 := by have := hh.2.1; omega
 obtain ⟨W0, hW0⟩ : ∃ W0, ((w.alloc (.cells #[.int .i64 ((S 0 : Nat) : Int)] 3)).alloc (.cells #[.func (.func 183) #[] #[]] 60)).alloc (.cells #[.slice ad0 N cap0] 47) = W0 := ⟨_, rfl⟩
 have hsz : W0.heap.size = w.heap.size + 3 := by rw [← hW0]; simp
 have hbel : Below w.heap.size w W0 := by rw [← hW0]; exact (((Below.refl _ _).alloc (Nat.le_refl _) _).alloc (by simp) _).alloc (by simp; omega) _
 have hb0 : Boxed W0 w.heap.size 3 (.int .i64 ((S 0 : Nat) : Int)) := by rw [← hW0]; exact ((Boxed.new w _ _).alloc _).alloc _
 have hb1 : Boxed W0 (w.heap.size + 1) 60 (.func (.func 183) #[] #[]) := by
  rw [← hW0]
  have := Boxed.new (w.alloc (.cells #[.int .i64 ((S 0 : Nat) : Int)] 3)) 60 (.func (.func 183) #[] #[])
  rw [World.size_alloc] at this
  exact this.alloc _
 have hb2 : Boxed W0 (w.heap.size + 2) 47 (.slice ad0 N cap0) := by
  rw [← hW0]
  have := Boxed.new ((w.alloc (.cells #[.int .i64 ((S 0 : Nat) : Int)] 3)).alloc (.cells #[.func (.func 183) #[] #[]] 60)) 47 (.slice ad0 N cap0)
  rw [World.size_alloc, World.size_alloc] at this
  exact this
 have hH1 := hh.below hbel (Nat.le_refl _)
 have HW0 := hid hW0; have HB0 := hid hb0; have HB1 := hid hb1; have HB2 := hid hb2; have HBL := hid hbel; have HH1 := hid hH1; have HH := hid hh; have HL := hid hl; have HSTEP := hid hstep
 clear hW0 hb0 hb1 hb2 hbel hH1 hh hl hstep
 refine callsIn_of_wp_marks Tryz.func182 rfl trivial ?_ rfl
 simp only [Tryz.ntmps182, List.size_toArray, List.length_cons, List.length_nil, Nat.reduceAdd, Nat.reduceSub, Array.replicate_succ, Array.replicate_zero, List.push_toArray, List.append_toArray, List.nil_append, List.cons_append]
 gi_wp2_with (refine ⟨trivial, (fun h => by cases h), ?_⟩; gi_at_call 187; refine (callsIn_wide.2 (backL_any _ _ _ _)).mono ?_; rintro e w' ⟨rfl, rfl⟩)
 rw [HW0.out]
 refine rangeFunc_nat (gf := 190) (lb := #[.pointer (some ⟨w.heap.size + 2, 0, none⟩)]) rfl (enters_of Tryz.func190 (by kernel_rfl) rfl)
  N (fun k => #[Value.int .i64 ((N - 1 - k : Nat) : Int), Value.int .i64 ((l.getD (N - 1 - k) 0 : Nat) : Int)]) (fun _ => rfl) (fun j => j < w.heap.size ∨ j = w.heap.size + 2) (fun j hj => by omega)
  ?seq (fun k W => (((Boxed W w.heap.size 3 (.int .i64 ((S k : Nat) : Int))) ∧ Boxed W (w.heap.size + 1) 60 (.func (.func 183) #[] #[])) ∧ w.heap.size + 3 ≤ W.heap.size) ∧ Below w.heap.size w W)
  (fun _ _ => False) ?own (fun _ _ _ _ h _ _ => h) ⟨⟨⟨HB0.out, HB1.out⟩, by omega⟩, HBL.out⟩ ?round ?done (fun _ _ h _ => h.elim)
 case seq =>
  intro l' J Jx W hY hJ hold
  refine backL1_in (n - 1) l' (w.heap.size + 2) N cap0 hN l HL.out ad0 _ (.inr rfl) ?_ J Jx hY W ((World.cell?_of_block (hold (w.heap.size + 2) (by omega))).trans HB2.out.cell) ?_ hJ
  · rintro h0 g o rfl
    obtain ⟨g', o', e, hg, _⟩ := HH.out.at (by rw [HL.out]; exact h0)
    cases e
    exact .inl hg
  exact HH1.out.same hold
 case own => exact OwnFrom.and (OwnFrom.and (OwnFrom.and ((boxed_own w.heap.size 3 (fun k => .int .i64 ((S k : Nat) : Int))).from _) ((boxed_own _ _ _).from _)) (size_own _ _)) (ownFrom_below (Nat.le_refl _) (by omega))
 case round =>
  rintro l' k W W2 hk ⟨⟨⟨bx0, bx1⟩, hsw⟩, hbl⟩
  gi_wp2
  refine ⟨trivial, ?_⟩
  have cs := fun W' (e : W2 = W') => HSTEP.out k W' hk (by rw [← e]; exact hbl)
  obtain ⟨d, hd⟩ : ∃ d, l.getD (N - 1 - k) 0 = d := ⟨_, rfl⟩
  rw [hd] at cs
  rw [show l[N - 1 - k]?.getD 0 = d by rw [← List.getD_eq_getElem?_getD]; exact hd]
  have c0 := bx0.cell
  have f0 := bx0.frozen
  have c1' := bx1.cell
  obtain ⟨q0, hq0⟩ : ∃ q, S k = q := ⟨_, rfl⟩
  obtain ⟨q1, hq1⟩ : ∃ q, S (k + 1) = q := ⟨_, rfl⟩
  rw [hq0] at c0 cs
  rw [hq1] at cs
  have CS := hid cs; have BX0 := hid bx0; have BX1 := hid bx1; have HBW := hid hbl; have HQ := hid hq1
  clear cs bx0 bx1 hbl hd hq0 hq1
  gi_wp2_with fail
  refine ⟨trivial, (fun h => by cases h), CallsIn.inRound l' ((callsIn_wide.2 (CS.out _ rfl)).mono ?_)⟩
  rintro e w3 ⟨rfl, rfl⟩
  gi_wp2
  refine ⟨(KeepsOthers.setCell _ _ _).from _, fun j hj => Below.heap_setCell _ _ _ _ (by show j ≠ w.heap.size; rcases hj with h | h <;> omega), ⟨⟨by rw [HQ.out]; exact BX0.out.set _, BX1.out.other (by omega) _⟩, by simpa using hsw⟩, HBW.out.setCell (p := ⟨w.heap.size, 0, none⟩) (Nat.le_refl _) _⟩
 case done =>
  rintro W ⟨⟨⟨bx0, _⟩, _⟩, hbl⟩ hD
  have c0 := bx0.cell
  have HD2 := hid hD; have HBW := hid hbl
  clear hD bx0 hbl
  dsimp only
  gi_wp2
  refine ⟨by simp, .inl ⟨_, _, rfl, run_takeDeferred HD2.out, ?_⟩⟩
  exact ⟨_, results_tmp rfl _ _ _, rfl, below_collected HBW.out (by omega) HD2.out _⟩
theorem valG_drop_le {l : List Nat} (h : IsGrp l) (k : Nat) : valG (l.drop k) ≤ valG l := by rw [valG_drop h]; exact Nat.div_le_self _ _
theorem times_any3 (x y : Nat) (ad1 ad2 : Option Addr) (c1 c2 n1 n2 : Nat) (w : World) (h1 : NatAt w ad1 n1 c1 x) (h2 : NatAt w ad2 n2 c2 y) (hn : n1 + n2 ≤ 900) :
 Calls Tryz.prog 161 #[.slice ad1 n1 c1, .slice ad2 n2 c2] w (NatPost w (x * y)) := by
 obtain ⟨e2, H2⟩ := h2
 have hb := grps_lt y
 have vb := valG_grps y
 obtain ⟨l, hl⟩ : ∃ l, grps y = l := ⟨_, rfl⟩
 rw [hl] at H2 e2 hb vb
 obtain ⟨S, hS⟩ : ∃ S : Nat → Nat, S = fun k => valG (l.drop (n2 - k)) * x := ⟨_, rfl⟩
 obtain ⟨w1, hw1⟩ : ∃ w1, w.alloc (.cells #[.slice ad1 n1 c1] 119) = w1 := ⟨_, rfl⟩
 have hbel : Below w.heap.size w w1 := by rw [← hw1]; exact (Below.refl _ _).alloc (Nat.le_refl _) _
 have hbx : Boxed w1 w.heap.size 119 (.slice ad1 n1 c1) := by rw [← hw1]; exact Boxed.new w _ _
 have hS0 : S 0 = 0 := by rw [hS]; simp only [Nat.sub_zero]; rw [List.drop_of_length_le (by omega)]; simp [valG]
 have hSN : S n2 = x * y := by rw [hS]; simp only [Nat.sub_self, List.drop_zero]; rw [vb, Nat.mul_comm]
 have hlen : ∀ k, (grps (S k)).length ≤ n1 + n2 := by
  intro k
  apply grps_length_le
  have a1 := (grps_length_iff n1 x).1 (by rw [h1.1]; exact Nat.le_refl _)
  have a2 := valG_lt hb
  rw [e2] at a2
  have a3 := valG_drop_le hb (n2 - k)
  rw [hS, Nat.pow_add, Nat.mul_comm (10000 ^ n1)]
  exact Nat.mul_lt_mul'' (Nat.lt_of_le_of_lt a3 a2) a1
 have hstep : ∀ k W ad m c, k < n2 → Below w1.heap.size w1 W → NatAt W ad m c (S k) → Calls Tryz.prog 176 #[.slice ad m c, .int .i64 ((l.getD (n2 - 1 - k) 0 : Nat) : Int), .pointer (some ⟨w.heap.size, 0, none⟩)] W (NatPost W (S (k + 1))) := by
  intro k W ad m c hk hb1 hna
  have hdl := getG_grp hb (n2 - 1 - k)
  have e : S (k + 1) = l.getD (n2 - 1 - k) 0 * x + 10000 * S k := by
   rw [hS]
   simp only
   have hv := valG_drop_cons (l := l) (k := n2 - 1 - k) (by omega)
   rw [show n2 - (k + 1) = n2 - 1 - k by omega, hv, show n2 - 1 - k + 1 = n2 - k by omega, Nat.add_mul, Nat.mul_assoc]
  rw [e]
  have hbx2 : Boxed W w.heap.size 119 (.slice ad1 n1 c1) := (hb1.block _ hbx.lt).trans hbx
  exact times1_any (S k) x _ hdl w.heap.size ad1 ad n1 c1 m c W hbx2.cell hbx2.lt (h1.below (hbel.trans (hb1.mono hbel.size)) (Nat.le_refl _)) hna (by have := hlen k; have := hna.1; omega) (by omega)
 have cf := foldN_in 0 n2 l e2 ad2 c2 S none 0 0 w1 (H2.below hbel (Nat.le_refl _)) (by rw [hS0]; exact ⟨rfl, HoldI.nil _ _ _⟩) w.heap.size hstep
 rw [hSN] at cf
 have CF := hid cf; have HB := hid hbel; have HW := hid hw1
 clear cf hstep hbel hbx hw1 H2 h1 hb vb hS0 hSN hlen hl e2 hS
 go_enter Tryz.func161, Tryz.ntmps161
 go_wp2_with fail
 rw [HW.out]
 refine (callsIn_wide.1 CF.out).mono ?_
 rintro e w2 ⟨ad, cap, m, rfl, hm, hh, hb⟩
 have HP := hid (NatPost.on (w := w) ⟨ad, cap, m, rfl, hm, hh, hb⟩ HB.out)
 clear hm hh hb
 go_wp2
 go_ret
 exact HP.out
theorem word1_any (s d : Nat) (h : s * 10000 + d < 1000000000000000000) (w : World) :
 Calls Tryz.prog 183 #[.int .i64 (s : Nat), .int .i64 (d : Nat)] w fun e w' => e = .returned (.int .i64 ((s * 10000 + d : Nat) : Int)) ∧ w = w' := by
 have h1 : (s : Int) * 10000 + (d : Int) < 1000000000000000000 := by omega
 have h2 : ((s * 10000 + d : Nat) : Int) = (s : Int) * 10000 + (d : Int) := by omega
 rw [h2]
 go_enter Tryz.func183, Tryz.ntmps183
 go_wp2
 go_ret
 exact ⟨rfl, rfl⟩
theorem word_any (y : Nat) (ad2 : Option Addr) (c2 n2 : Nat) (w : World) (h2 : NatAt w ad2 n2 c2 y) (hn : n2 ≤ 4) :
 Calls Tryz.prog 168 #[.slice ad2 n2 c2] w fun e w' => e = .returned (.int .i64 ((y : Nat) : Int)) ∧ Below w.heap.size w w' := by
 obtain ⟨e2, H2⟩ := h2
 have hb := grps_lt y
 have vb := valG_grps y
 obtain ⟨l, hl⟩ : ∃ l, grps y = l := ⟨_, rfl⟩
 rw [hl] at H2 e2 hb vb
 obtain ⟨S, hS⟩ : ∃ S : Nat → Nat, S = fun k => valG (l.drop (n2 - k)) := ⟨_, rfl⟩
 have hS0 : S 0 = 0 := by rw [hS]; simp only [Nat.sub_zero]; rw [List.drop_of_length_le (by omega)]; simp [valG]
 have hSN : S n2 = y := by rw [hS]; simp only [Nat.sub_self, List.drop_zero]; exact vb
 have hy : y < 10000000000000000 := by
  have a2 := valG_lt hb
  rw [e2, vb] at a2
  exact Nat.lt_of_lt_of_le a2 (Nat.pow_le_pow_right (by decide) hn)
 have hstep : ∀ k W, k < n2 → Below w.heap.size w W → Calls Tryz.prog 183 #[.int .i64 ((S k : Nat) : Int), .int .i64 ((l.getD (n2 - 1 - k) 0 : Nat) : Int)] W fun e W' => e = .returned (.int .i64 ((S (k + 1) : Nat) : Int)) ∧ W = W' := by
  intro k W hk _
  have e : S (k + 1) = S k * 10000 + l.getD (n2 - 1 - k) 0 := by
   rw [hS]
   simp only
   have hv := valG_drop_cons (l := l) (k := n2 - 1 - k) (by omega)
   rw [show n2 - (k + 1) = n2 - 1 - k by omega, hv, show n2 - 1 - k + 1 = n2 - k by omega]
   omega
  have hle : S (k + 1) ≤ y := by rw [hS, ← vb]; exact valG_drop_le hb _
  rw [e] at hle ⊢
  exact word1_any _ _ (by omega) W
 have cf := foldI_in 0 n2 l e2 ad2 c2 S w H2 hstep
 rw [hSN, hS0] at cf
 have CF := hid (show CallsIn Fence.wide 0 Tryz.prog 182 #[.slice ad2 n2 c2, .int .i64 0, .func (.func 183) #[] #[]] w _ from cf)
 clear cf hstep H2 hb vb hS0 hSN hl e2 hS
 go_enter Tryz.func168, Tryz.ntmps168
 go_wp2_with fail
 refine (callsIn_wide.1 CF.out).mono ?_
 rintro e w2 ⟨rfl, b⟩
 go_wp2
 go_ret
 exact ⟨rfl, b⟩
end Go.Proofs.YtcglcgphgahnpaaGreatDoor
namespace Go.Proofs.YtcglcgphgahnpaaGreatDoor
open Go Go.Proofs Go.RowKit Go.Lib
def Found (q : Nat → Bool) (n r : Nat) : Prop := r ≤ n ∧ (r = 0 ∨ q (r - 1) = false) ∧ (r = n ∨ q r = true)
theorem search_any (n : Nat) (hn : n ≤ 1099511627776) (q : Nat → Bool) (Bf Bl : Nat) (w : World)
 (hc : ∀ W i, i < n → Below w.heap.size w W → Calls Tryz.prog 185 #[.int .i64 ((i : Nat) : Int), .pointer (some ⟨Bf, 0, none⟩), .pointer (some ⟨Bl, 0, none⟩)] W fun e W' => e = .returned (.bool (q i)) ∧ Below W.heap.size W W') :
 Calls Tryz.prog 184 #[.int .i64 ((n : Nat) : Int), .func (.func 185) #[] #[.pointer (some ⟨Bf, 0, none⟩), .pointer (some ⟨Bl, 0, none⟩)]] w fun e w' => (∃ r : Nat, Found q n r ∧ e = .returned (.int .i64 ((r : Nat) : Int))) ∧ Below w.heap.size w w' := by
 have HC := hid hc
 clear hc
 go_enter Tryz.func184, Tryz.ntmps184
 go_wp2_with fail
 go_loopw [5, 6] (fun vi vj wr => ∃ (i j : Nat), i ≤ j ∧ j ≤ n ∧ vi = .int .i64 i ∧ vj = .int .i64 j ∧ Hid (i = 0 ∨ q (i - 1) = false) ∧ Hid (j = n ∨ q j = true) ∧ Hid (Below w.heap.size w wr)) (fun vi vj _ => (RowKit.intOf vj - RowKit.intOf vi).toNat)
 case atStart => exact ⟨0, n, Nat.zero_le _, Nat.le_refl _, rfl, rfl, .inl rfl, .inl rfl, Below.refl _ _⟩
 obtain ⟨i, j, hij, hjn, rfl, rfl, hi, hj, hbr⟩ := hrel
 by_cases hlt : i < j
 · have hlt2 : (i : Int) < (j : Int) := by omega
   obtain ⟨h, hh⟩ : ∃ h, (i + j) / 2 = h := ⟨_, rfl⟩
   have hhn : h < n := by omega
   have hih : i ≤ h ∧ h < j := by omega
   have hshr : ((i : Int) + (j : Int)) / 2 = (h : Int) := by omega
   have cs := HC.out wr h hhn hbr.out
   obtain ⟨b, hb⟩ : ∃ b, q h = b := ⟨_, rfl⟩
   rw [hb] at cs
   have CS := hid cs; have HBQ := hid hb
   clear cs hb hh
   go_wp2_with fail
   refine CS.out.mono ?_
   rintro e w2 ⟨rfl, b2⟩
   have HB2 := hid (hbr.out.trans (b2.mono hbr.out.size))
   clear b2 hbr CS
   cases b with
   | true =>
    go_wp2_with fail
    go_roundw
    case rel => exact ⟨i, h, hih.1, by omega, rfl, rfl, hi.out, .inr HBQ.out, HB2.out⟩
    case measure => simp [RowKit.intOf]; omega
   | false =>
    go_wp2_with fail
    go_roundw
    case rel => exact ⟨h + 1, j, by omega, by omega, by go_num, rfl, .inr (by simpa using HBQ.out), hj.out, HB2.out⟩
    case measure => simp [RowKit.intOf]; omega
 have hlt2 : ¬ (i : Int) < (j : Int) := by omega
 obtain rfl : i = j := by omega
 have HP := hid (show Found q n i from ⟨hjn, hi.out, hj.out⟩)
 clear hi hj hij
 go_wp2_with fail
 go_ret
 exact ⟨⟨i, HP.out, rfl⟩, hbr.out⟩
def Greatest (p : Nat → Bool) (low high r : Nat) : Prop := low ≤ r ∧ r ≤ high ∧ (r = low ∨ p r = true) ∧ (r = high ∨ p (r + 1) = false)
theorem greatest_any (low high : Nat) (hlh : low ≤ high) (hh : high ≤ 1000000) (p : Nat → Bool) (gs : Nat) (lb : Array Value) (w : World)
 (hc : ∀ W i Bf Bl, i < high - low → Below w.heap.size w W → w.heap.size ≤ Bf → w.heap.size ≤ Bl → Bf < W.heap.size → Bl < W.heap.size → W.cell? ⟨Bf, 0, none⟩ = some (.func (.func gs) #[] lb) → W.cell? ⟨Bl, 0, none⟩ = some (.int .i64 ((low : Nat) : Int)) →
  Calls Tryz.prog 185 #[.int .i64 ((i : Nat) : Int), .pointer (some ⟨Bf, 0, none⟩), .pointer (some ⟨Bl, 0, none⟩)] W fun e W' => e = .returned (.bool (!p (low + i + 1))) ∧ Below W.heap.size W W') :
 Calls Tryz.prog 170 #[.int .i64 ((low : Nat) : Int), .int .i64 ((high : Nat) : Int), .func (.func gs) #[] lb] w fun e w' => (∃ r : Nat, Greatest p low high r ∧ e = .returned (.int .i64 ((r : Nat) : Int))) ∧ Below w.heap.size w w' := by
 obtain ⟨w1, hw1⟩ : ∃ w1, (w.alloc (.cells #[.int .i64 ((low : Nat) : Int)] 3)).alloc (.cells #[.func (.func gs) #[] lb] 63) = w1 := ⟨_, rfl⟩
 have hbel : Below w.heap.size w w1 := by rw [← hw1]; exact ((Below.refl _ _).alloc (Nat.le_refl _) _).alloc (by simp) _
 have hbl : Boxed w1 w.heap.size 3 (.int .i64 ((low : Nat) : Int)) := by rw [← hw1]; exact (Boxed.new w _ _).alloc _
 have hbf : Boxed w1 (w.heap.size + 1) 63 (.func (.func gs) #[] lb) := by
  rw [← hw1]
  have := Boxed.new (w.alloc (.cells #[.int .i64 ((low : Nat) : Int)] 3)) 63 (.func (.func gs) #[] lb)
  rw [World.size_alloc] at this
  exact this
 have cs := fun W (b : Below w1.heap.size w1 W) => search_any (high - low) (by omega) (fun i => !p (low + i + 1)) (w.heap.size + 1) w.heap.size W (fun W' i hi hb' => by
  have b2 := b.trans (hb'.mono b.size)
  have x1 : Boxed W' w.heap.size 3 (.int .i64 ((low : Nat) : Int)) := (b2.block _ hbl.lt).trans hbl
  have x2 : Boxed W' (w.heap.size + 1) 63 (.func (.func gs) #[] lb) := (b2.block _ hbf.lt).trans hbf
  exact hc W' i _ _ hi (hbel.trans (b2.mono hbel.size)) (by omega) (Nat.le_refl _) x2.lt x1.lt x2.cell x1.cell)
 have hdi : ((high - low : Nat) : Int) = (high : Int) - (low : Int) := by omega
 rw [hdi] at cs
 have hkeep : ∀ W, Below w1.heap.size w1 W → W.cell? ⟨w.heap.size, 0, none⟩ = some (.int .i64 ((low : Nat) : Int)) := fun W b => (b.cell (p := ⟨w.heap.size, 0, none⟩) hbl.lt).trans hbl.cell
 have CS := hid cs; have HB := hid hbel; have HW := hid hw1; have HK := hid hkeep
 have hw3 : IntKind.i64.wrap ((high : Int) - (low : Int)) = (high : Int) - (low : Int) := IntWalk.i64_in _ (by omega)
 have hw4 : ∀ r : Nat, r ≤ high - low → IntKind.i64.wrap ((low : Int) + (r : Int)) = (low : Int) + (r : Int) := fun r hr => IntWalk.i64_in _ (by omega)
 have HW4 := hid hw4
 clear cs hbel hw1 hkeep hc hbl hbf hdi hw4
 go_enter Tryz.func170, Tryz.ntmps170
 go_wp2_with fail
 rw [HW.out]
 go_region_held3 (fun W => W.cell? ⟨w.heap.size, 0, none⟩ = some (.int .i64 ((low : Nat) : Int))) (first | exact HK.out _ ⟨rfl, rfl, rfl, Nat.le_refl _, fun _ _ => rfl⟩ | exact HK.out _ ⟨hb1.os, hb1.tape, hb1.output, hb1.size, hb1.block⟩)
  (first | (go_at_call 184; (with_reducible refine (CS.out _ ?_).mono ?_); exact ⟨rfl, rfl, rfl, Nat.le_refl _, fun _ _ => rfl⟩; rintro e w2 ⟨⟨r, hr, rfl⟩, hb1'⟩; have hb1 : Below w1.heap.size w1 w2 := ⟨hb1'.os, hb1'.tape, hb1'.output, hb1'.size, hb1'.block⟩; have hw5 := HW4.out r hr.1))
 all_goals (
  go_wp2
  go_ret
  obtain ⟨f1, f2, f3⟩ := hr
  refine ⟨⟨low + r, ⟨by omega, by omega, ?_, ?_⟩, ?_⟩, HB.out.trans (hb1.mono HB.out.size)⟩
  · rcases f2 with h | h
    · left; omega
    by_cases h0 : r = 0
    · left; omega
    right
    simpa [show low + (r - 1) + 1 = low + r by omega] using h
  · rcases f3 with h | h
    · left; omega
    right; simpa using h
  go_num)
end Go.Proofs.YtcglcgphgahnpaaGreatDoor
namespace Go.Proofs.YtcglcgphgahnpaaGreatDoor
open Go Go.Proofs Go.RowKit Go.Lib
theorem below_of {w W W' : World} (b : Below w.heap.size w W) (b' : Below W.heap.size W W') : Below w.heap.size w W' := b.trans (b'.mono b.size)
theorem quot_found {x d low high r : Nat} (hd : 0 < d) (h : Greatest (fun q => !decide (x < d * q)) low high r) (h1 : low ≤ x / d) (h2 : x / d ≤ high) : r = x / d := by
 obtain ⟨_, _, h3, h4⟩ := h
 have a1 : r ≤ x / d := by
  rcases h3 with h | h
  · omega
  rw [Nat.le_div_iff_mul_le hd]
  simp at h
  rw [Nat.mul_comm]; exact h
 have a2 : x / d ≤ r := by
  rcases h4 with h | h
  · omega
  simp at h
  have := (Nat.div_lt_iff_lt_mul hd).2 (by rw [Nat.mul_comm]; exact h)
  omega
 omega
theorem fitsQ_any (x d q : Nat) (hq : q < 10000) (adx add : Option Addr) (cx cd nx nd B1 B2 : Nat) (w : World) (h1 : NatAt w adx nx cx x) (h2 : NatAt w add nd cd d) (hnd : nd ≤ 900)
 (l1 : B1 < w.heap.size) (l2 : B2 < w.heap.size) (e1 : w.cell? ⟨B1, 0, none⟩ = some (.func (.func 147) #[.slice adx nx cx] #[])) (e2 : w.cell? ⟨B2, 0, none⟩ = some (.slice add nd cd)) :
 Calls Tryz.prog 171 #[.int .i64 ((q : Nat) : Int), .pointer (some ⟨B1, 0, none⟩), .pointer (some ⟨B2, 0, none⟩)] w fun e w' => e = .returned (.bool (!decide (x < d * q))) ∧ Below w.heap.size w w' := by
 have c1 := fun W (b : Below w.heap.size w W) => multiple_any d q hq add cd nd W (h2.below b (Nat.le_refl _)) (by omega)
 have c2 := fun W0 W (b0 : Below w.heap.size w W0) (b : Below W0.heap.size W0 W) ad' c' m' (hm' : (grps (d * q)).length = m') (hh : HoldI W0 ad' c' (grps (d * q))) =>
  less_any x (d * q) adx ad' cx c' nx m' W (h1.below (below_of b0 b) (Nat.le_refl _)) ⟨hm', hh.below b (Nat.le_refl _)⟩
 have hkeep : ∀ W, Below w.heap.size w W → W.cell? ⟨B1, 0, none⟩ = some (.func (.func 147) #[.slice adx nx cx] #[]) ∧ W.cell? ⟨B2, 0, none⟩ = some (.slice add nd cd) :=
  fun W b => ⟨(b.cell (p := ⟨B1, 0, none⟩) l1).trans e1, (b.cell (p := ⟨B2, 0, none⟩) l2).trans e2⟩
 obtain ⟨R, hR⟩ : ∃ R, decide (x < d * q) = R := ⟨_, rfl⟩
 rw [hR] at c2
 rw [hR]
 have C1 := hid c1; have C2 := hid c2; have HK := hid hkeep
 clear c1 c2 hkeep h1 h2 hR
 go_enter Tryz.func171, Tryz.ntmps171
 go_wp2_with fail
 go_region_held3 (fun W => W.cell? ⟨B1, 0, none⟩ = some (.func (.func 147) #[.slice adx nx cx] #[]) ∧ W.cell? ⟨B2, 0, none⟩ = some (.slice add nd cd))
  (first | exact HK.out _ ⟨rfl, rfl, rfl, Nat.le_refl _, fun _ _ => rfl⟩ | exact HK.out _ ⟨hb1.os, hb1.tape, hb1.output, hb1.size, hb1.block⟩ | exact HK.out _ ⟨hb2.os, hb2.tape, hb2.output, hb2.size, hb2.block⟩)
  (first | (go_at_call 172; (with_reducible refine (C1.out _ ?_).mono ?_); exact ⟨rfl, rfl, rfl, Nat.le_refl _, fun _ _ => rfl⟩; rintro e w1 ⟨ad1, cap1, m1, rfl, hm1, hh1, hb1'⟩; have hb1 : Below w.heap.size w w1 := ⟨hb1'.os, hb1'.tape, hb1'.output, hb1'.size, hb1'.block⟩) | (go_at_call 147; (with_reducible refine (C2.out w1 _ hb1 ?_ _ _ _ hm1 hh1).mono ?_); exact ⟨rfl, rfl, rfl, Nat.le_refl _, fun _ _ => rfl⟩; rintro e w2 ⟨rfl, hb2'⟩; have hb2 : Below w.heap.size w w2 := ⟨hb2'.os.trans hb1.os, hb2'.tape.trans hb1.tape, hb2'.output.trans hb1.output, Nat.le_trans hb1.size hb2'.size, fun k hk => (hb2'.block k (Nat.lt_of_lt_of_le hk hb1.size)).trans (hb1.block k hk)⟩))
 all_goals (
  go_wp2
  go_ret
  exact ⟨rfl, hb2⟩)
theorem greatest1Q_any (x d low i : Nat) (hq : low + i + 1 < 10000) (adx add : Option Addr) (cx cd nx nd B1 B2 Bf Bl : Nat) (w : World) (h1 : NatAt w adx nx cx x) (h2 : NatAt w add nd cd d) (hnd : nd ≤ 900)
 (l1 : B1 < w.heap.size) (l2 : B2 < w.heap.size) (e1 : w.cell? ⟨B1, 0, none⟩ = some (.func (.func 147) #[.slice adx nx cx] #[])) (e2 : w.cell? ⟨B2, 0, none⟩ = some (.slice add nd cd))
 (ef : w.cell? ⟨Bf, 0, none⟩ = some (.func (.func 171) #[] #[.pointer (some ⟨B1, 0, none⟩), .pointer (some ⟨B2, 0, none⟩)])) (el : w.cell? ⟨Bl, 0, none⟩ = some (.int .i64 ((low : Nat) : Int))) :
 Calls Tryz.prog 185 #[.int .i64 ((i : Nat) : Int), .pointer (some ⟨Bf, 0, none⟩), .pointer (some ⟨Bl, 0, none⟩)] w fun e w' => e = .returned (.bool (!(!decide (x < d * (low + i + 1))))) ∧ Below w.heap.size w w' := by
 have c := fun W (e : w = W) => fitsQ_any x d (low + i + 1) hq adx add cx cd nx nd B1 B2 W (by rw [← e]; exact h1) (by rw [← e]; exact h2) hnd (by rw [← e]; exact l1) (by rw [← e]; exact l2) (by rw [← e]; exact e1) (by rw [← e]; exact e2)
 obtain ⟨R, hR⟩ : ∃ R, (!decide (x < d * (low + i + 1))) = R := ⟨_, rfl⟩
 rw [hR] at c ⊢
 have hz : ((low + i + 1 : Nat) : Int) = (low : Int) + (i : Int) + 1 := by omega
 rw [hz] at c
 have C := hid c
 clear c h1 h2 e1 e2 hR hz
 go_enter Tryz.func185, Tryz.ntmps185
 go_wp2_with fail
 refine (C.out _ rfl).mono ?_
 rintro e w1 ⟨rfl, b⟩
 go_wp2
 go_ret
 exact ⟨rfl, b⟩
end Go.Proofs.YtcglcgphgahnpaaGreatDoor
namespace Go.Proofs.YtcglcgphgahnpaaGreatDoor
open Go Go.Proofs Go.RowKit Go.Lib
theorem store_new (W : World) (v u : Value) (t : TypeId) (h : v.oneCell' = true) : (store ⟨W.heap.size, 0, none⟩ v).run Tryz.prog (W.alloc (.cells #[u] t)) = .ok () (W.alloc (.cells #[v] t)) := by
 have hb := Boxed.new W t u
 rw [run_store _ _ _ _ _ h, hb.cell, hb.frozen]
 simp [World.setCell_alloc_at]
theorem min2N (w : World) (ts : Array TypeId) (t : TypeId) (x y m : Int) (hm : m = min x y) : (Builtin.min_ ts t #[.int .i64 x, .int .i64 y]).run Tryz.prog w = .ok (.int .i64 m) w := by
 subst hm
 simp [Builtin.min_, Builtin.min2]
 omega
theorem max2N (w : World) (ts : Array TypeId) (t : TypeId) (x y m : Int) (hm : m = max x y) : (Builtin.max_ ts t #[.int .i64 x, .int .i64 y]).run Tryz.prog w = .ok (.int .i64 m) w := by
 subst hm
 simp [Builtin.max_, Builtin.max2]
 omega
theorem sliceN_zero (ad : Option Addr) (n c : Nat) (hc : n ≤ c) (w : World) : (Instr.slice 119 (.slice ad n c) (some (.int .i64 0)) none none).run Tryz.prog w = .ok (.slice ad n c) w := by
 rw [run_slice_l w _ _ _ _ nat_elem .i64 _ (by omega) (by omega), nat_size]
 have e : (ad.map fun x => x.add (0 * 1)) = ad := by cases ad <;> simp [add0]
 have _ := hc
 simp only [Result.andThen, sliced, Int.toNat_zero]
 rw [e]
 simp
theorem quot_len {x d : Nat} (hx : x < d * 10000) : (grps x).length ≤ (grps d).length + 1 := by
 apply grps_length_le
 have h := (grps_length_iff (grps d).length d).1 (Nat.le_refl _)
 rw [Nat.pow_succ]
 generalize 10000 ^ (grps d).length = p at *
 omega
theorem quot_under {d cut : Nat} (hd : 0 < d) (hc : cut + 1 ≤ (grps d).length) : 0 < d / 10000 ^ cut := by
 have h0 : 0 < (grps d).length := by omega
 have h2 := canonG_ge (grps_lt d) (grps_canonG d) h0
 rw [valG_grps] at h2
 have _ := hd
 exact Nat.div_pos (Nat.le_trans (Nat.pow_le_pow_right (by decide) (by omega)) h2) (Nat.pow_pos (by decide))
theorem word_lt {y : Nat} (h : (grps y).length ≤ 4) : y < 10000000000000000 := by
 have := (grps_length_iff 4 y).1 h
 simpa using this
theorem nat_from {W : World} {ad ad' : Option Addr} {n c x k cut : Nat} (h : NatAt W ad n c x) (hs : ∀ W l, l.length = n → HoldI W ad c l → HoldI W ad' (c - k) (l.drop k)) (hk : x / 10000 ^ k = x / 10000 ^ cut) : NatAt W ad' (n - k) (c - k) (x / 10000 ^ cut) := by
 have h1 := hs W _ h.1 h.2
 have e := grps_shift x k
 rw [hk] at e
 rw [e] at h1
 exact ⟨by rw [← e, List.length_drop, h.1], h1⟩
theorem quot_last (x d lo H : Nat) (hd : 0 < d) (hlo : lo ≤ x / d) (hH : x / d ≤ H) (hH9 : H ≤ 9999) (adx add : Option Addr) (cx cd nx nd : Nat) (w Wd : World) (h1 : NatAt w adx nx cx x) (h2 : NatAt w add nd cd d) (hnd : nd ≤ 900)
 (hb : Below w.heap.size w Wd) (hlt : w.heap.size < Wd.heap.size) (hbx : Wd.cell? ⟨w.heap.size, 0, none⟩ = some (.slice add nd cd)) :
 Calls Tryz.prog 170 #[.int .i64 ((lo : Nat) : Int), .int .i64 ((H : Nat) : Int), .func (.func 171) #[] #[.pointer (some ⟨Wd.heap.size, 0, none⟩), .pointer (some ⟨w.heap.size, 0, none⟩)]]
  (Wd.alloc (.cells #[.func (.func 147) #[.slice adx nx cx] #[]] 149)) fun e w' => e = .returned (.int .i64 ((x / d : Nat) : Int)) ∧ Below w.heap.size w w' := by
 obtain ⟨w1, hw1⟩ : ∃ w1, Wd.alloc (.cells #[.func (.func 147) #[.slice adx nx cx] #[]] 149) = w1 := ⟨_, rfl⟩
 have hb1 : Below w.heap.size w w1 := by rw [← hw1]; exact hb.alloc (by omega) _
 have hx1 : Boxed w1 Wd.heap.size 149 (.func (.func 147) #[.slice adx nx cx] #[]) := by rw [← hw1]; exact Boxed.new Wd _ _
 have hx2 : w1.cell? ⟨w.heap.size, 0, none⟩ = some (.slice add nd cd) := by
  rw [← hw1]
  exact (World.cell?_of_block (a := ⟨w.heap.size, 0, none⟩) (Below.heap_alloc Wd _ _ hlt)).trans hbx
 have hl2 : w.heap.size < w1.heap.size := by have := hx1.lt; omega
 rw [hw1]
 refine (greatest_any lo H (Nat.le_trans hlo hH) (by omega) (fun q => !decide (x < d * q)) 171 _ w1 ?_).mono ?_
 · intro W i Bf Bl hi hbW _ _ _ _ ef el
   have hbb := below_of hb1 hbW
   exact greatest1Q_any x d lo i (by omega) adx add cx cd nx nd Wd.heap.size w.heap.size Bf Bl W (h1.below hbb (Nat.le_refl _)) (h2.below hbb (Nat.le_refl _)) hnd (Nat.lt_of_lt_of_le hx1.lt hbW.size) (Nat.lt_of_lt_of_le hl2 hbW.size)
    ((hbW.cell (p := ⟨Wd.heap.size, 0, none⟩) hx1.lt).trans hx1.cell) ((hbW.cell (p := ⟨w.heap.size, 0, none⟩) hl2).trans hx2) ef el
 rintro e w2 ⟨⟨r, hr, rfl⟩, b2⟩
 rw [quot_found hd hr hlo hH]
 exact ⟨rfl, below_of hb1 b2⟩
theorem quot_any (x d : Nat) (hd : 0 < d) (hx : x < d * 10000) (adx add : Option Addr) (cx cd nx nd : Nat) (w : World) (h1 : NatAt w adx nx cx x) (h2 : NatAt w add nd cd d) (hnd : nd ≤ 900) :
    Calls Tryz.prog 158 #[.slice adx nx cx, .slice add nd cd] w fun e w' => e = .returned (.int .i64 ((x / d : Nat) : Int)) ∧ Below w.heap.size w w' := by
  have hlen := quot_len hx
  rw [h1.1, h2.1] at hlen
  have hnd0 : 0 < nd := by rw [← h2.1, grps_pos (by omega)]; simp
  have hncx : nx ≤ cx := by have := h1.2.1; rw [h1.1] at this; exact this
  have hncd : nd ≤ cd := by have := h2.2.1; rw [h2.1] at this; exact this
  obtain ⟨cut, hcut⟩ : ∃ cut, nd - 3 = cut := ⟨_, rfl⟩
  obtain ⟨top, htop⟩ : ∃ t, x / 10000 ^ cut = t := ⟨_, rfl⟩
  obtain ⟨under, hunder⟩ : ∃ t, d / 10000 ^ cut = t := ⟨_, rfl⟩
  have hu0 : 0 < under := by rw [← hunder]; exact quot_under hd (by rw [h2.1]; omega)
  have hq9 : x / d ≤ 9999 := by
    have := (Nat.div_lt_iff_lt_mul hd).2 (by rw [Nat.mul_comm]; exact hx)
    omega
  obtain ⟨w1, hw1⟩ : ∃ w1, w.alloc (.cells #[.slice add nd cd] 119) = w1 := ⟨_, rfl⟩
  have hbel : Below w.heap.size w w1 := by rw [← hw1]; exact (Below.refl _ _).alloc (Nat.le_refl _) _
  have hbx : Boxed w1 w.heap.size 119 (.slice add nd cd) := by rw [← hw1]; exact Boxed.new w _ _
  have hhigh : x / d ≤ top / under := quot_high htop.symm hunder.symm (Nat.pow_pos (by decide)) hu0
  have hkeep : ∀ W, Below w1.heap.size w1 W → W.cell? ⟨w.heap.size, 0, none⟩ = some (.slice add nd cd) := fun W b => (b.cell (p := ⟨w.heap.size, 0, none⟩) hbx.lt).trans hbx.cell
  by_cases h3 : nd ≤ 3
  · obtain rfl : cut = 0 := by omega
    rw [Nat.pow_zero, Nat.div_one] at htop hunder
    subst htop hunder
    have hc2 : (nd : Int) - 4 + 1 ≤ 0 := by omega
    have hs1 := fun w => sliceN_zero adx nx cx hncx w
    have hs2 := fun w => sliceN_zero add nd cd hncd w
    have n1 := fun W (b : Below w1.heap.size w1 W) => h1.below (hbel.trans (b.mono hbel.size)) (Nat.le_refl _)
    have n2 := fun W (b : Below w1.heap.size w1 W) => h2.below (hbel.trans (b.mono hbel.size)) (Nat.le_refl _)
    have cw1 := fun W (b : Below w1.heap.size w1 W) => word_any x adx cx nx W (n1 W b) (by omega)
    have cw2 := fun W (b : Below w1.heap.size w1 W) => word_any d add cd nd W (n2 W b) (by omega)
    have htl : x < 10000000000000000 := word_lt (by rw [(n1 w1 (Below.refl _ _)).1]; omega)
    have hul : d < 10000000000000000 := word_lt (by rw [(n2 w1 (Below.refl _ _)).1]; omega)
    have hm1 := fun w' => min2N w' #[3, 3] 3 0 (nx : Int) 0 (by omega)
    have hlow : x / d ≤ x / d := Nat.le_refl _
    obtain ⟨lo, hlo⟩ : ∃ l, x / d = l := ⟨_, rfl⟩
    obtain ⟨hi, hhi⟩ : ∃ l, x / d = l := ⟨_, rfl⟩
    rw [hlo] at hlow
    rw [hhi] at hhigh
    have CW1 := hid cw1; have CW2 := hid cw2; have HW := hid hw1; have HB := hid hbel; have HBX := hid hbx; have HK := hid hkeep; have HH1 := hid h1; have HH2 := hid h2
    clear cw1 cw2 hw1 hbel hbx hkeep h1 h2 n1 n2 hx hlen
    obtain ⟨H, hH⟩ : ∃ l, min hi 9999 = l := ⟨_, rfl⟩
    have hHl : lo ≤ H ∧ H ≤ 9999 := by omega
    have hHq : x / d ≤ H := by omega
    have hmA := fun w' => min2N w' #[3, 3] 3 0 1 0 (by omega)
    have hmB := fun w' => min2N w' #[3, 3] 3 (hi : Int) 9999 (H : Int) (by omega)
    have hq1 : Int.tdiv (x : Int) (d : Int) = (lo : Int) := by rw [Int.tdiv_eq_ediv_of_nonneg (by omega), ← hlo]; simp
    have hq2 : Int.tdiv (x : Int) (d : Int) = (hi : Int) := by rw [Int.tdiv_eq_ediv_of_nonneg (by omega), ← hhi]; simp
    have hlob : lo ≤ 9999 := by omega
    have hhib : hi < 10000000000000000 := by rw [← hhi]; exact Nat.lt_of_le_of_lt (Nat.div_le_self _ _) htl
    have hw6 : IntKind.i64.wrap (lo : Int) = (lo : Int) := IntWalk.i64_in _ (by omega)
    have hw7 : IntKind.i64.wrap (hi : Int) = (hi : Int) := IntWalk.i64_in _ (by omega)
    have hw5 : IntKind.i64.wrap ((d : Int) + 0) = (d : Int) := by rw [Int.add_zero]; exact IntWalk.i64_in _ (by omega)
    have hw8 : IntKind.i64.wrap (d : Int) = (d : Int) := IntWalk.i64_in _ (by omega)
    have hz1 : (d : Int) ≠ 0 := by omega
    have hstn := fun W u => store_new W (.func (.func 147) #[.slice adx nx cx] #[]) u 149 rfl
    clear hhi hH
    have HLQ := hid hlo.symm
    clear hlo
    go_enter Tryz.func158, Tryz.ntmps158
    go_wp2_with fail
    rw [HW.out]
    go_region_held3 (fun W => W.cell? ⟨w.heap.size, 0, none⟩ = some (.slice add nd cd))
      (first | exact HK.out _ ⟨rfl, rfl, rfl, Nat.le_refl _, fun _ _ => rfl⟩ | exact HK.out _ ⟨hb1.os, hb1.tape, hb1.output, hb1.size, hb1.block⟩ | exact HK.out _ ⟨hb2.os, hb2.tape, hb2.output, hb2.size, hb2.block⟩)
      (first | (go_at_call 168; (with_reducible refine (CW1.out _ ?_).mono ?_); (first | exact ⟨rfl, rfl, rfl, Nat.le_refl _, fun _ _ => rfl⟩ | exact ⟨hb2.os, hb2.tape, hb2.output, hb2.size, hb2.block⟩); rintro e W1 ⟨rfl, hb1'⟩; (first | (have hb1 : Below w1.heap.size w1 W1 := ⟨hb1'.os, hb1'.tape, hb1'.output, hb1'.size, hb1'.block⟩) | (have hb1 : Below w1.heap.size w1 W1 := below_of hb2 ⟨hb1'.os, hb1'.tape, hb1'.output, hb1'.size, hb1'.block⟩)))
              | (go_at_call 168; (with_reducible refine (CW2.out _ ?_).mono ?_); (first | exact ⟨rfl, rfl, rfl, Nat.le_refl _, fun _ _ => rfl⟩ | exact ⟨hb1.os, hb1.tape, hb1.output, hb1.size, hb1.block⟩); rintro e W2 ⟨rfl, hb2'⟩; have hb2 : Below w1.heap.size w1 W2 := below_of hb1 ⟨hb2'.os, hb2'.tape, hb2'.output, hb2'.size, hb2'.block⟩))
    all_goals (
      go_wp2_with fail
      go_quiet (fail)
      have hbd := below_drewN hb2 nq
      generalize W2.drewN nq = Wd at hbd ⊢
      have HBD := hid hbd
      clear hbd
      go_wp2_with fail
      refine (quot_last x d lo lo hd (by have := HLQ.out; omega) (by have := HLQ.out; omega) (by omega) adx add cx cd nx nd w _ HH1.out HH2.out hnd (below_of HB.out HBD.out) (Nat.lt_of_lt_of_le HBX.out.lt HBD.out.size) (HK.out _ HBD.out)).mono ?_
      rintro e w9 ⟨rfl, b9⟩
      go_wp2
      go_ret
      exact ⟨rfl, b9⟩)
  · by_cases hcn : cut ≤ nx
    · have hc1 : (nd : Int) - 4 + 1 = (cut : Int) := by omega
      have hc2 : (0 : Int) < (cut : Int) := by omega
      have hc3 : (1 : Int) ≤ (cut : Int) := by omega
      obtain ⟨add', hs2, hh2, _⟩ := sliceN_from add nd cd cut (cut : Int) rfl (by omega) hncd
      have n2 := fun W (b : Below w1.heap.size w1 W) => nat_from (h2.below (hbel.trans (b.mono hbel.size)) (Nat.le_refl _)) hh2 (k := cut) (cut := cut) rfl
      rw [hunder] at n2
      have cw2 := fun W (b : Below w1.heap.size w1 W) => word_any under add' (cd - cut) (nd - cut) W (n2 W b) (by omega)
      have hul : under < 10000000000000000 := word_lt (by rw [(n2 w1 (Below.refl _ _)).1]; omega)
      have hm1 := fun w' => min2N w' #[3, 3] 3 (cut : Int) (nx : Int) (cut : Int) (by omega)
      obtain ⟨adx', hs1, hh1, _⟩ := sliceN_from adx nx cx cut (cut : Int) rfl (by omega) hncx
      have hkk : x / 10000 ^ cut = x / 10000 ^ cut := rfl
      have n1 := fun W (b : Below w1.heap.size w1 W) => nat_from (h1.below (hbel.trans (b.mono hbel.size)) (Nat.le_refl _)) hh1 (k := cut) (cut := cut) hkk
      rw [htop] at n1
      have cw1 := fun W (b : Below w1.heap.size w1 W) => word_any top adx' (cx - cut) (nx - cut) W (n1 W b) (by omega)
      have htl : top < 10000000000000000 := word_lt (by rw [(n1 w1 (Below.refl _ _)).1]; omega)
      have hlow : top / (under + 1) ≤ x / d := quot_low (s := 1) htop.symm hunder.symm hd (Nat.pow_pos (by decide)) (.inl rfl)
      obtain ⟨lo, hlo⟩ : ∃ l, top / (under + 1) = l := ⟨_, rfl⟩
      obtain ⟨hi, hhi⟩ : ∃ l, top / under = l := ⟨_, rfl⟩
      rw [hlo] at hlow
      rw [hhi] at hhigh
      have CW1 := hid cw1; have CW2 := hid cw2; have HW := hid hw1; have HB := hid hbel; have HBX := hid hbx; have HK := hid hkeep; have HH1 := hid h1; have HH2 := hid h2
      clear cw1 cw2 hw1 hbel hbx hkeep h1 h2 n1 n2 hx hlen hh1 hh2 hkk htop hunder hcut
      obtain ⟨H, hH⟩ : ∃ l, min hi 9999 = l := ⟨_, rfl⟩
      have hHl : lo ≤ H ∧ H ≤ 9999 := by omega
      have hHq : x / d ≤ H := by omega
      have hmA := fun w' => min2N w' #[3, 3] 3 (cut : Int) 1 1 (by omega)
      have hmB := fun w' => min2N w' #[3, 3] 3 (hi : Int) 9999 (H : Int) (by omega)
      have hq1 : Int.tdiv (top : Int) ((under : Int) + 1) = (lo : Int) := by rw [Int.tdiv_eq_ediv_of_nonneg (by omega), ← hlo]; simp
      have hq2 : Int.tdiv (top : Int) (under : Int) = (hi : Int) := by rw [Int.tdiv_eq_ediv_of_nonneg (by omega), ← hhi]; simp
      have hlob : lo ≤ 9999 := by omega
      have hhib : hi < 10000000000000000 := by rw [← hhi]; exact Nat.lt_of_le_of_lt (Nat.div_le_self _ _) htl
      have hw6 : IntKind.i64.wrap (lo : Int) = (lo : Int) := IntWalk.i64_in _ (by omega)
      have hw7 : IntKind.i64.wrap (hi : Int) = (hi : Int) := IntWalk.i64_in _ (by omega)
      have hw5 : IntKind.i64.wrap ((under : Int) + 1) = (under : Int) + 1 := IntWalk.i64_in _ (by omega)
      have hz1 : (under : Int) ≠ 0 := by omega
      have hz2 : (under : Int) + 1 ≠ 0 := by omega
      have hstn := fun W u => store_new W (.func (.func 147) #[.slice adx nx cx] #[]) u 149 rfl
      clear hhi hH
      clear hlo
      go_enter Tryz.func158, Tryz.ntmps158
      go_wp2_with fail
      rw [HW.out]
      go_region_held3 (fun W => W.cell? ⟨w.heap.size, 0, none⟩ = some (.slice add nd cd))
        (first | exact HK.out _ ⟨rfl, rfl, rfl, Nat.le_refl _, fun _ _ => rfl⟩ | exact HK.out _ ⟨hb1.os, hb1.tape, hb1.output, hb1.size, hb1.block⟩ | exact HK.out _ ⟨hb2.os, hb2.tape, hb2.output, hb2.size, hb2.block⟩)
        (first | (go_at_call 168; (with_reducible refine (CW1.out _ ?_).mono ?_); (first | exact ⟨rfl, rfl, rfl, Nat.le_refl _, fun _ _ => rfl⟩ | exact ⟨hb2.os, hb2.tape, hb2.output, hb2.size, hb2.block⟩); rintro e W1 ⟨rfl, hb1'⟩; (first | (have hb1 : Below w1.heap.size w1 W1 := ⟨hb1'.os, hb1'.tape, hb1'.output, hb1'.size, hb1'.block⟩) | (have hb1 : Below w1.heap.size w1 W1 := below_of hb2 ⟨hb1'.os, hb1'.tape, hb1'.output, hb1'.size, hb1'.block⟩)))
                | (go_at_call 168; (with_reducible refine (CW2.out _ ?_).mono ?_); (first | exact ⟨rfl, rfl, rfl, Nat.le_refl _, fun _ _ => rfl⟩ | exact ⟨hb1.os, hb1.tape, hb1.output, hb1.size, hb1.block⟩); rintro e W2 ⟨rfl, hb2'⟩; have hb2 : Below w1.heap.size w1 W2 := below_of hb1 ⟨hb2'.os, hb2'.tape, hb2'.output, hb2'.size, hb2'.block⟩))
      all_goals (
        go_wp2_with fail
        go_quiet (fail)
        have hbd := below_drewN hb2 nq
        generalize W2.drewN nq = Wd at hbd ⊢
        have HBD := hid hbd
        clear hbd
        go_wp2_with fail
        refine (quot_last x d lo H hd (by omega) (by omega) (by omega) adx add cx cd nx nd w _ HH1.out HH2.out hnd (below_of HB.out HBD.out) (Nat.lt_of_lt_of_le HBX.out.lt HBD.out.size) (HK.out _ HBD.out)).mono ?_
        rintro e w9 ⟨rfl, b9⟩
        go_wp2
        go_ret
        exact ⟨rfl, b9⟩)
    · have hc1 : (nd : Int) - 4 + 1 = (cut : Int) := by omega
      have hc2 : (0 : Int) < (cut : Int) := by omega
      have hc3 : (1 : Int) ≤ (cut : Int) := by omega
      obtain ⟨add', hs2, hh2, _⟩ := sliceN_from add nd cd cut (cut : Int) rfl (by omega) hncd
      have n2 := fun W (b : Below w1.heap.size w1 W) => nat_from (h2.below (hbel.trans (b.mono hbel.size)) (Nat.le_refl _)) hh2 (k := cut) (cut := cut) rfl
      rw [hunder] at n2
      have cw2 := fun W (b : Below w1.heap.size w1 W) => word_any under add' (cd - cut) (nd - cut) W (n2 W b) (by omega)
      have hul : under < 10000000000000000 := word_lt (by rw [(n2 w1 (Below.refl _ _)).1]; omega)
      have hm1 := fun w' => min2N w' #[3, 3] 3 (cut : Int) (nx : Int) (nx : Int) (by omega)
      obtain ⟨adx', hs1, hh1, _⟩ := sliceN_from adx nx cx nx (nx : Int) rfl (by omega) hncx
      have hxl := (grps_length_iff nx x).1 (by rw [h1.1]; exact Nat.le_refl _)
      have hkk : x / 10000 ^ nx = x / 10000 ^ cut := by rw [Nat.div_eq_of_lt hxl, Nat.div_eq_of_lt (Nat.lt_of_lt_of_le hxl (Nat.pow_le_pow_right (by decide) (by omega)))]
      have n1 := fun W (b : Below w1.heap.size w1 W) => nat_from (h1.below (hbel.trans (b.mono hbel.size)) (Nat.le_refl _)) hh1 (k := nx) (cut := cut) hkk
      rw [htop] at n1
      rw [Nat.sub_self] at n1
      have cw1 := fun W (b : Below w1.heap.size w1 W) => word_any top adx' (cx - nx) 0 W (n1 W b) (by omega)
      have htl : top < 10000000000000000 := word_lt (by rw [(n1 w1 (Below.refl _ _)).1]; omega)
      have hlow : top / (under + 1) ≤ x / d := quot_low (s := 1) htop.symm hunder.symm hd (Nat.pow_pos (by decide)) (.inl rfl)
      obtain ⟨lo, hlo⟩ : ∃ l, top / (under + 1) = l := ⟨_, rfl⟩
      obtain ⟨hi, hhi⟩ : ∃ l, top / under = l := ⟨_, rfl⟩
      rw [hlo] at hlow
      rw [hhi] at hhigh
      have CW1 := hid cw1; have CW2 := hid cw2; have HW := hid hw1; have HB := hid hbel; have HBX := hid hbx; have HK := hid hkeep; have HH1 := hid h1; have HH2 := hid h2
      clear cw1 cw2 hw1 hbel hbx hkeep h1 h2 n1 n2 hx hlen hh1 hh2 hkk htop hunder hcut
      obtain ⟨H, hH⟩ : ∃ l, min hi 9999 = l := ⟨_, rfl⟩
      have hHl : lo ≤ H ∧ H ≤ 9999 := by omega
      have hHq : x / d ≤ H := by omega
      have hmA := fun w' => min2N w' #[3, 3] 3 (cut : Int) 1 1 (by omega)
      have hmB := fun w' => min2N w' #[3, 3] 3 (hi : Int) 9999 (H : Int) (by omega)
      have hq1 : Int.tdiv (top : Int) ((under : Int) + 1) = (lo : Int) := by rw [Int.tdiv_eq_ediv_of_nonneg (by omega), ← hlo]; simp
      have hq2 : Int.tdiv (top : Int) (under : Int) = (hi : Int) := by rw [Int.tdiv_eq_ediv_of_nonneg (by omega), ← hhi]; simp
      have hlob : lo ≤ 9999 := by omega
      have hhib : hi < 10000000000000000 := by rw [← hhi]; exact Nat.lt_of_le_of_lt (Nat.div_le_self _ _) htl
      have hw6 : IntKind.i64.wrap (lo : Int) = (lo : Int) := IntWalk.i64_in _ (by omega)
      have hw7 : IntKind.i64.wrap (hi : Int) = (hi : Int) := IntWalk.i64_in _ (by omega)
      have hw5 : IntKind.i64.wrap ((under : Int) + 1) = (under : Int) + 1 := IntWalk.i64_in _ (by omega)
      have hz1 : (under : Int) ≠ 0 := by omega
      have hz2 : (under : Int) + 1 ≠ 0 := by omega
      have hstn := fun W u => store_new W (.func (.func 147) #[.slice adx nx cx] #[]) u 149 rfl
      clear hhi hH
      clear hlo
      go_enter Tryz.func158, Tryz.ntmps158
      go_wp2_with fail
      rw [HW.out]
      go_region_held3 (fun W => W.cell? ⟨w.heap.size, 0, none⟩ = some (.slice add nd cd))
        (first | exact HK.out _ ⟨rfl, rfl, rfl, Nat.le_refl _, fun _ _ => rfl⟩ | exact HK.out _ ⟨hb1.os, hb1.tape, hb1.output, hb1.size, hb1.block⟩ | exact HK.out _ ⟨hb2.os, hb2.tape, hb2.output, hb2.size, hb2.block⟩)
        (first | (go_at_call 168; (with_reducible refine (CW1.out _ ?_).mono ?_); (first | exact ⟨rfl, rfl, rfl, Nat.le_refl _, fun _ _ => rfl⟩ | exact ⟨hb2.os, hb2.tape, hb2.output, hb2.size, hb2.block⟩); rintro e W1 ⟨rfl, hb1'⟩; (first | (have hb1 : Below w1.heap.size w1 W1 := ⟨hb1'.os, hb1'.tape, hb1'.output, hb1'.size, hb1'.block⟩) | (have hb1 : Below w1.heap.size w1 W1 := below_of hb2 ⟨hb1'.os, hb1'.tape, hb1'.output, hb1'.size, hb1'.block⟩)))
                | (go_at_call 168; (with_reducible refine (CW2.out _ ?_).mono ?_); (first | exact ⟨rfl, rfl, rfl, Nat.le_refl _, fun _ _ => rfl⟩ | exact ⟨hb1.os, hb1.tape, hb1.output, hb1.size, hb1.block⟩); rintro e W2 ⟨rfl, hb2'⟩; have hb2 : Below w1.heap.size w1 W2 := below_of hb1 ⟨hb2'.os, hb2'.tape, hb2'.output, hb2'.size, hb2'.block⟩))
      all_goals (
        go_wp2_with fail
        go_quiet (fail)
        have hbd := below_drewN hb2 nq
        generalize W2.drewN nq = Wd at hbd ⊢
        have HBD := hid hbd
        clear hbd
        go_wp2_with fail
        refine (quot_last x d lo H hd (by omega) (by omega) (by omega) adx add cx cd nx nd w _ HH1.out HH2.out hnd (below_of HB.out HBD.out) (Nat.lt_of_lt_of_le HBX.out.lt HBD.out.size) (HK.out _ HBD.out)).mono ?_
        rintro e w9 ⟨rfl, b9⟩
        go_wp2
        go_ret
        exact ⟨rfl, b9⟩)
end Go.Proofs.YtcglcgphgahnpaaGreatDoor
