/-
  Layer 9: an event stored into a row; what BatchHead asks, plain.
-/
import Derived.Test.YtnpfhcnjkekhbaaGreatDoorProg
import Derived.Test.YtnpfhcnjkekhbaaGreatDoorK25
import Derived.Test.YtnpfhcnjkekhbaaGreatDoorK27
import Derived.Defers
import Derived.Recover
import Derived.Sort.CutIn
import Derived.Shelf.Strings.BuilderK
import Derived.Shelf.Strings.Repeat
import Derived.Maps.Own
import Derived.Maps.OwnOps
import Derived.Laws.Rows
import Derived.Laws.OwnMore
import Derived.OwnWalk
import Derived.WalkKit
import Derived.WalkLawsBesides
import Derived.Outline
import Derived.Lib.Hide
import Derived.Below
import Derived.BigQuiet
import Derived.Deep.QuietTactic
import Derived.Deep.RegionHeld3
import Derived.Lib.QuietBelow
import Derived.Deep.DeepCutAuto
import Derived.StillTail
import Derived.Lib.Varint
import Derived.Lib.SlBytesRow
import Derived.Shelf.Abstract
import Derived.OwnWalkIn
import Derived.TacticsInMore
import Derived.LoopNIn
import Derived.LoopIn
import Derived.RangeFuncNested
import Derived.RangeFuncBound
import Derived.RangeFuncCalls
import Derived.RangeFuncLeaves
import Derived.RangeFuncBox
import Derived.Lib.ConvBytes
import Derived.DefersIn
import Derived.Laws.CopyOwn
import Derived.RegionTactic
import Derived.ChangeAlike
import Derived.Deep.RegionWith
import Derived.Deep.CutRange
import Derived.IntWalk
import Derived.Lib.EndianBits
import Derived.Lib.Strings
import Derived.ControlIn
import Derived.WalkMore
import Derived.Lib.SliceRun
import Derived.RangeFuncRecord
import Derived.Shelf.LaysM
import Derived.Shelf.Strconv.Clone
import Derived.RangeFuncFrom
import Derived.TacticsIn
import Derived.OrdersIn
import Derived.Laws.MakeOwn
import Derived.Laws.StructEq
import Derived.Maps.AppendAt
import Derived.Deep.RegionLaw
import Derived.Laws.AppendOwn
set_option maxRecDepth 100000
set_option maxHeartbeats 16000000
namespace Go.Proofs.YtnpfhcnjkekhbaaGreatDoor
open Go Go.Proofs Go.RowKit Go.Lib
theorem new9z {T : Type} (K : RowK T) (W : World) (base : Nat) (l : List T) (hb : base ≤ W.heap.size) (hl : l.length ≤ maxLen) (vs : List Value) (hvs : vs = K.vs l) (t : TypeId) (ht : t = K.et) (n : Nat) (hn : n = l.length) :
 Own K (W.alloc (.cells vs.toArray t)) base (.slice (some ⟨W.heap.size, 0, none⟩) n n) l := by
 subst hvs ht hn
 refine ⟨K.vs_length l, .inr ⟨W.heap.size, l.length, (K.vs l).toArray, rfl, hb, heap_alloc_new W _, Nat.le_refl _, hl, by simp [K.vs_length], by rw [List.take_of_length_le (by simp [K.vs_length])]⟩⟩
theorem own_put12 {W : World} {base g n c : Nat} {l : List Ev} (h : Own KE W base (.slice (some ⟨g, 0, none⟩) n c) l) (i : Nat) (hi : i < l.length) (x : Ev) :
 Own KE ((((((((((((W.setCell ⟨g, 12 * i, none⟩ (.int .i64 x.ag)).setCell ⟨g, 12 * i + 1, none⟩ (.int .i64 x.sq)).setCell ⟨g, 12 * i + 2, none⟩ (.int .i64 x.tm)).setCell ⟨g, 12 * i + 3, none⟩ (.int .i64 x.kd)).setCell ⟨g, 12 * i + 4, none⟩ (.int .i64 x.tr)).setCell ⟨g, 12 * i + 5, none⟩ (.int .i64 x.sp)).setCell ⟨g, 12 * i + 6, none⟩ (.int .i64 x.lk)).setCell ⟨g, 12 * i + 7, none⟩ (.int .i64 x.gn)).setCell ⟨g, 12 * i + 8, none⟩ (.int .i64 x.op)).setCell ⟨g, 12 * i + 9, none⟩ (.int .i64 x.vr)).setCell ⟨g, 12 * i + 10, none⟩ (.int .i64 x.pe)).setCell ⟨g, 12 * i + 11, none⟩ (.int .i64 x.bt)) base (.slice (some ⟨g, 0, none⟩) n c) (l.set i x) := by
 obtain ⟨y, hy⟩ : ∃ y, y = l[i] := ⟨_, rfl⟩
 have p0 := (h.put i hi 0 (by decide) (⟨x.ag, y.sq, y.tm, y.kd, y.tr, y.sp, y.lk, y.gn, y.op, y.vr, y.pe, y.bt⟩ : Ev) (.int .i64 x.ag) (by rw [← hy]; rfl)).1
 rw [show KE.n * i + 0 = 12 * i by show 12 * i + 0 = _; omega] at p0
 have p1 := (p0.put i (by rw [List.length_set]; exact hi) 1 (by decide) (⟨x.ag, x.sq, y.tm, y.kd, y.tr, y.sp, y.lk, y.gn, y.op, y.vr, y.pe, y.bt⟩ : Ev) (.int .i64 x.sq) (by rw [List.getElem_set_self]; rfl)).1
 rw [List.set_set, show KE.n * i + 1 = 12 * i + 1 by show 12 * i + 1 = _; omega] at p1
 have p2 := (p1.put i (by rw [List.length_set]; exact hi) 2 (by decide) (⟨x.ag, x.sq, x.tm, y.kd, y.tr, y.sp, y.lk, y.gn, y.op, y.vr, y.pe, y.bt⟩ : Ev) (.int .i64 x.tm) (by rw [List.getElem_set_self]; rfl)).1
 rw [List.set_set, show KE.n * i + 2 = 12 * i + 2 by show 12 * i + 2 = _; omega] at p2
 have p3 := (p2.put i (by rw [List.length_set]; exact hi) 3 (by decide) (⟨x.ag, x.sq, x.tm, x.kd, y.tr, y.sp, y.lk, y.gn, y.op, y.vr, y.pe, y.bt⟩ : Ev) (.int .i64 x.kd) (by rw [List.getElem_set_self]; rfl)).1
 rw [List.set_set, show KE.n * i + 3 = 12 * i + 3 by show 12 * i + 3 = _; omega] at p3
 have p4 := (p3.put i (by rw [List.length_set]; exact hi) 4 (by decide) (⟨x.ag, x.sq, x.tm, x.kd, x.tr, y.sp, y.lk, y.gn, y.op, y.vr, y.pe, y.bt⟩ : Ev) (.int .i64 x.tr) (by rw [List.getElem_set_self]; rfl)).1
 rw [List.set_set, show KE.n * i + 4 = 12 * i + 4 by show 12 * i + 4 = _; omega] at p4
 have p5 := (p4.put i (by rw [List.length_set]; exact hi) 5 (by decide) (⟨x.ag, x.sq, x.tm, x.kd, x.tr, x.sp, y.lk, y.gn, y.op, y.vr, y.pe, y.bt⟩ : Ev) (.int .i64 x.sp) (by rw [List.getElem_set_self]; rfl)).1
 rw [List.set_set, show KE.n * i + 5 = 12 * i + 5 by show 12 * i + 5 = _; omega] at p5
 have p6 := (p5.put i (by rw [List.length_set]; exact hi) 6 (by decide) (⟨x.ag, x.sq, x.tm, x.kd, x.tr, x.sp, x.lk, y.gn, y.op, y.vr, y.pe, y.bt⟩ : Ev) (.int .i64 x.lk) (by rw [List.getElem_set_self]; rfl)).1
 rw [List.set_set, show KE.n * i + 6 = 12 * i + 6 by show 12 * i + 6 = _; omega] at p6
 have p7 := (p6.put i (by rw [List.length_set]; exact hi) 7 (by decide) (⟨x.ag, x.sq, x.tm, x.kd, x.tr, x.sp, x.lk, x.gn, y.op, y.vr, y.pe, y.bt⟩ : Ev) (.int .i64 x.gn) (by rw [List.getElem_set_self]; rfl)).1
 rw [List.set_set, show KE.n * i + 7 = 12 * i + 7 by show 12 * i + 7 = _; omega] at p7
 have p8 := (p7.put i (by rw [List.length_set]; exact hi) 8 (by decide) (⟨x.ag, x.sq, x.tm, x.kd, x.tr, x.sp, x.lk, x.gn, x.op, y.vr, y.pe, y.bt⟩ : Ev) (.int .i64 x.op) (by rw [List.getElem_set_self]; rfl)).1
 rw [List.set_set, show KE.n * i + 8 = 12 * i + 8 by show 12 * i + 8 = _; omega] at p8
 have p9 := (p8.put i (by rw [List.length_set]; exact hi) 9 (by decide) (⟨x.ag, x.sq, x.tm, x.kd, x.tr, x.sp, x.lk, x.gn, x.op, x.vr, y.pe, y.bt⟩ : Ev) (.int .i64 x.vr) (by rw [List.getElem_set_self]; rfl)).1
 rw [List.set_set, show KE.n * i + 9 = 12 * i + 9 by show 12 * i + 9 = _; omega] at p9
 have p10 := (p9.put i (by rw [List.length_set]; exact hi) 10 (by decide) (⟨x.ag, x.sq, x.tm, x.kd, x.tr, x.sp, x.lk, x.gn, x.op, x.vr, x.pe, y.bt⟩ : Ev) (.int .i64 x.pe) (by rw [List.getElem_set_self]; rfl)).1
 rw [List.set_set, show KE.n * i + 10 = 12 * i + 10 by show 12 * i + 10 = _; omega] at p10
 have p11 := (p10.put i (by rw [List.length_set]; exact hi) 11 (by decide) (⟨x.ag, x.sq, x.tm, x.kd, x.tr, x.sp, x.lk, x.gn, x.op, x.vr, x.pe, x.bt⟩ : Ev) (.int .i64 x.bt) (by rw [List.getElem_set_self]; rfl)).1
 rw [List.set_set, show KE.n * i + 11 = 12 * i + 11 by show 12 * i + 11 = _; omega] at p11
 exact p11
theorem below_put12 {n : Nat} {w W : World} {g o : Nat} {v0 v1 v2 v3 v4 v5 v6 v7 v8 v9 v10 v11 : Value} (h : Below n w W) (hg : n ≤ g) : Below n w ((((((((((((W.setCell ⟨g, o, none⟩ v0).setCell ⟨g, o + 1, none⟩ v1).setCell ⟨g, o + 2, none⟩ v2).setCell ⟨g, o + 3, none⟩ v3).setCell ⟨g, o + 4, none⟩ v4).setCell ⟨g, o + 5, none⟩ v5).setCell ⟨g, o + 6, none⟩ v6).setCell ⟨g, o + 7, none⟩ v7).setCell ⟨g, o + 8, none⟩ v8).setCell ⟨g, o + 9, none⟩ v9).setCell ⟨g, o + 10, none⟩ v10).setCell ⟨g, o + 11, none⟩ v11) :=
 ((((((((((((h.setCell hg _).setCell hg _).setCell hg _).setCell hg _).setCell hg _).setCell hg _).setCell hg _).setCell hg _).setCell hg _).setCell hg _).setCell hg _).setCell hg _)
structure Hd9 (PA : Int) (A B : List Ev) : Prop where
 al : A.length ≤ 20
 bl : B.length = A.length
 ga : 0 ≤ PA ∧ PA ≤ 5
 ea : ∀ x ∈ A, evB x = true
 eb : ∀ x ∈ B, evB x = true
 na : numB PA 0 A = true
theorem numB_take {PA : Int} {S : List Ev} (h : numB PA 0 S = true) (N : Nat) : numB PA 0 (S.take N) = true := numB_yes fun i hi => by
 have hi2 : i < S.length := by rw [List.length_take] at hi; omega
 have hi3 : i < N := by rw [List.length_take] at hi; omega
 rw [evD_take hi3]
 exact numB_of h i hi2
theorem hd9 (ag : Int) (l m : List S6) (N : Nat) (h1 : N ≤ strN l) (h2 : N ≤ strN m) : Hd9 (pick8 ag 6) ((strL ag l).take N) ((strL ag m).take N) where
 al := by have := strN_le l; rw [List.length_take, strL_len]; omega
 bl := by rw [List.length_take, List.length_take, strL_len, strL_len]; omega
 ga := ⟨pick8_lo (c := ag) (n := 6) (by decide), by have := pick8_hi (c := ag) (n := 6) (by decide); omega⟩
 ea := fun x hx => numB_ev (strL_num ag l) x (List.mem_of_mem_take hx)
 eb := fun x hx => numB_ev (strL_num ag m) x (List.mem_of_mem_take hx)
 na := numB_take (strL_num ag l) N
theorem fol_of9 {PA : Int} {A : List Ev} {p : ByteArray} (hl : A.length ≤ 20) (hg : 0 ≤ PA ∧ PA ≤ 5) (hn : numB PA 0 A = true) (hp : p.size = 32) : folB9 zz32 ⟨PA, 0, 0, A, p⟩ = decide (chH chainF zz32 A = p) := by
 have hb : btB ⟨PA, 0, 0, A, p⟩ = true := by
  unfold btB
  simp only [Bool.and_eq_true, decide_eq_true_eq]
  exact ⟨⟨⟨⟨⟨inB_yes hg.1 hg.2, by decide⟩, by omega⟩, by decide⟩, hp⟩, hn⟩
 unfold folB9
 rw [hb, decide_eq_true zz32_size]
 rfl
theorem Hd9.one {PA : Int} {A B : List Ev} (h : Hd9 PA A B) : folB9 zz32 ⟨PA, 0, 0, A, chH chainF zz32 A⟩ = true := by
 rw [fol_of9 h.al h.ga h.na (chH_size chainF_size zz32_size _)]
 exact decide_eq_true rfl
theorem Hd9.numset {PA : Int} {A B : List Ev} (h : Hd9 PA A B) (K : Nat) (E : Ev) (h1 : evB E = true) (h2 : E.ag = PA) (h3 : E.sq = (K : Int)) : numB PA 0 (A.set K E) = true := numB_yes fun i hi => by
 rw [List.length_set] at hi
 have hi2 : i < (A.set K E).length := by rw [List.length_set]; exact hi
 rw [evD_of hi2, List.getElem_set]
 split
 · rename_i e
   subst e
   exact ⟨h1, h2, by rw [h3]; omega⟩
 · have := numB_of h.na i hi
   rw [evD_of hi] at this
   exact this
def chE9 (PA : Int) (A : List Ev) (K : Nat) (x : S6) : Ev := mdE PA (K : Int) (evD A K).tm x
theorem Hd9.chg {PA : Int} {A B : List Ev} (h : Hd9 PA A B) (K : Nat) (hK : K < A.length) (x : S6) : evB (chE9 PA A K x) = true ∧ numB PA 0 (A.set K (chE9 PA A K x)) = true := by
 have he := h.ea _ (List.getElem_mem hK)
 have ht := (evB_of he).2.2.1
 have hd : evD A K = A[K] := evD_of hK
 have h1 : evB (chE9 PA A K x) = true := mdE_ok h.ga.1 h.ga.2 (by omega) (by have := h.al; omega) (by rw [hd]; exact ht.1) (by rw [hd]; exact ht.2) x
 obtain ⟨e1, e2, e3⟩ := mdE_ag PA (K : Int) (evD A K).tm x
 exact ⟨h1, h.numset K _ h1 e1 e2⟩
theorem Hd9.two {PA : Int} {A B : List Ev} (h : Hd9 PA A B) (K : Nat) (hK : K < A.length) (x : S6) : folB9 zz32 ⟨PA, 0, 0, A.set K (chE9 PA A K x), chH chainF zz32 A⟩ = decide (chH chainF zz32 (A.set K (chE9 PA A K x)) = chH chainF zz32 A) :=
 fol_of9 (by rw [List.length_set]; exact h.al) h.ga (h.chg K hK x).2 (chH_size chainF_size zz32_size _)
theorem set_same9 {A : List Ev} {K : Nat} (hK : K < A.length) : A.set K A[K] = A := by
 apply List.ext_getElem
 · rw [List.length_set]
 · intro i h1 h2
   rw [List.getElem_set]
   split
   · rename_i e; subst e; rfl
   · rfl
theorem Hd9.three {PA : Int} {A B : List Ev} (h : Hd9 PA A B) (K : Nat) (hK : K < A.length) (x : S6) :
 (chE9 PA A K x = A[K] ∧ chH chainF zz32 (A.set K (chE9 PA A K x)) = chH chainF zz32 A) ∨
 (¬ chE9 PA A K x = A[K] ∧ ¬ chH chainF zz32 (A.set K (chE9 PA A K x)) = chH chainF zz32 A) ∨
 (¬ chE9 PA A K x = A[K] ∧ chH chainF zz32 (A.set K (chE9 PA A K x)) = chH chainF zz32 A ∧ colD (chsL zz32 A) (chsL zz32 (A.set K (chE9 PA A K x))) = true) := by
 by_cases e : chE9 PA A K x = A[K]
 · left
   refine ⟨e, ?_⟩
   rw [e, set_same9 hK]
 · right
   by_cases e2 : chH chainF zz32 (A.set K (chE9 PA A K x)) = chH chainF zz32 A
   · right
     refine ⟨e, e2, ?_⟩
     have hev : ∀ y ∈ A.set K (chE9 PA A K x), evB y = true := fun y hy => by
      rcases List.mem_or_eq_of_mem_set hy with h9 | h9
      · exact h.ea y h9
      · rw [h9]; exact (h.chg K hK x).1
     rcases chain_bound9 zz32_size h.ea hev (by rw [List.length_set]) e2.symm with h9 | h9
     · have h8 : (A.set K (chE9 PA A K x))[K]'(by rw [List.length_set]; exact hK) = chE9 PA A K x := List.getElem_set_self _
       have h7 : A[K] = (A.set K (chE9 PA A K x))[K]'(by rw [List.length_set]; exact hK) := by
        congr 1
       exact absurd (h8.symm.trans h7.symm) (fun q => e q)
     · exact h9
   · exact .inl ⟨e, e2⟩
theorem Hd9.cases {PA : Int} {A B : List Ev} (h : Hd9 PA A B) : (A = B ∧ chH chainF zz32 A = chH chainF zz32 B) ∨ (¬ A = B ∧ ¬ chH chainF zz32 A = chH chainF zz32 B) ∨ (¬ A = B ∧ chH chainF zz32 A = chH chainF zz32 B ∧ colD (chsL zz32 A) (chsL zz32 B) = true) := by
 by_cases e : A = B
 · exact .inl ⟨e, by rw [e]⟩
 · right
   by_cases e2 : chH chainF zz32 A = chH chainF zz32 B
   · right
     rcases chain_bound9 zz32_size h.ea h.eb h.bl.symm e2 with h9 | h9
     · exact absurd h9 e
     · exact ⟨e, e2, h9⟩
   · exact .inl ⟨e, e2⟩
theorem chs_small {z : ByteArray} (hz : z.size = 32) {A : List Ev} (hA : ∀ x ∈ A, evB x = true) : ∀ s ∈ chsL z A, s.size ≤ 1099511627776 := fun s hs => by
 obtain ⟨i, hi, rfl⟩ := List.mem_map.1 hs
 have hi := List.mem_range.1 hi
 unfold chs9
 have h1 := chH_size chainF_size hz (A.take i)
 have h2 := encT_size (evB_evD hA hi)
 have : (tagged 2 (chH chainF z (A.take i) ++ encT (evD A i))).size = (chH chainF z (A.take i) ++ encT (evD A i)).size + 1 := tagged_size _ _
 rw [this, ByteArray.size_append]
 omega
theorem chsL_len (z : ByteArray) (A : List Ev) : (chsL z A).length = A.length := chsK_len _ _ _
end Go.Proofs.YtnpfhcnjkekhbaaGreatDoor
