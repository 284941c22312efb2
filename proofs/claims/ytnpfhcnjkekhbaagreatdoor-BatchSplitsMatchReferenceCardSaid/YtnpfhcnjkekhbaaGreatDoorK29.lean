/-
  Layer 9: an event stored into a row; what BatchHead asks, plain. Layer 9, the reference's Split: the parts of a stream, or none. Layer 9: what Split answers, as batches; the reference's Parts.
-/
import Derived.Test.YtnpfhcnjkekhbaaGreatDoorProg
import Derived.Test.YtnpfhcnjkekhbaaGreatDoorK25
import Derived.Test.YtnpfhcnjkekhbaaGreatDoorK27
import Derived.Defers
import Derived.Recover
import Derived.Sort.CutIn
import Derived.Shelf.Strings.BuilderK
import Derived.Shelf.Strings.Repeat
import Derived.Maps.Own
import Derived.Maps.OwnOps
import Derived.Laws.Rows
import Derived.Laws.OwnMore
import Derived.OwnWalk
import Derived.WalkKit
import Derived.WalkLawsBesides
import Derived.Outline
import Derived.Lib.Hide
import Derived.Below
import Derived.BigQuiet
import Derived.Deep.QuietTactic
import Derived.Deep.RegionHeld3
import Derived.Lib.QuietBelow
import Derived.Deep.DeepCutAuto
import Derived.StillTail
import Derived.Lib.Varint
import Derived.Lib.SlBytesRow
import Derived.Shelf.Abstract
import Derived.OwnWalkIn
import Derived.TacticsInMore
import Derived.LoopNIn
import Derived.LoopIn
import Derived.RangeFuncNested
import Derived.RangeFuncBound
import Derived.RangeFuncCalls
import Derived.RangeFuncLeaves
import Derived.RangeFuncBox
import Derived.Lib.ConvBytes
import Derived.DefersIn
import Derived.Laws.CopyOwn
import Derived.RegionTactic
import Derived.ChangeAlike
import Derived.Deep.RegionWith
import Derived.Deep.CutRange
import Derived.IntWalk
import Derived.Lib.EndianBits
import Derived.Lib.Strings
import Derived.ControlIn
import Derived.WalkMore
import Derived.Lib.SliceRun
import Derived.RangeFuncRecord
import Derived.Shelf.LaysM
import Derived.Shelf.Strconv.Clone
import Derived.RangeFuncFrom
import Derived.TacticsIn
import Derived.OrdersIn
import Derived.Laws.MakeOwn
import Derived.Laws.StructEq
import Derived.Maps.AppendAt
import Derived.Deep.RegionLaw
import Derived.Laws.AppendOwn
set_option maxRecDepth 100000
set_option maxHeartbeats 16000000
namespace Go.Proofs.YtnpfhcnjkekhbaaGreatDoor
open Go Go.Proofs Go.RowKit Go.Lib
theorem at_int9z (g o n c k : Nat) (hk : k < n) (w : World) : (Instr.indexAt 28 (.slice (some ⟨g, o, none⟩) n c) (.int .i64 (k : Int))).run Tryz.prog w = .ok (.pointer (some ⟨g, o + k, none⟩)) w := at_int8 g o n c k hk w
theorem new9z {T : Type} (K : RowK T) (W : World) (base : Nat) (l : List T) (hb : base ≤ W.heap.size) (hl : l.length ≤ maxLen) (vs : List Value) (hvs : vs = K.vs l) (t : TypeId) (ht : t = K.et) (n : Nat) (hn : n = l.length) :
 Own K (W.alloc (.cells vs.toArray t)) base (.slice (some ⟨W.heap.size, 0, none⟩) n n) l := by
 subst hvs ht hn
 refine ⟨K.vs_length l, .inr ⟨W.heap.size, l.length, (K.vs l).toArray, rfl, hb, heap_alloc_new W _, Nat.le_refl _, hl, by simp [K.vs_length], by rw [List.take_of_length_le (by simp [K.vs_length])]⟩⟩
structure Hd9 (PA : Int) (A B : List Ev) : Prop where
 al : A.length ≤ 20
 bl : B.length = A.length
 ga : 0 ≤ PA ∧ PA ≤ 5
 ea : ∀ x ∈ A, evB x = true
 eb : ∀ x ∈ B, evB x = true
 na : numB PA 0 A = true
theorem fol_of9 {PA : Int} {A : List Ev} {p : ByteArray} (hl : A.length ≤ 20) (hg : 0 ≤ PA ∧ PA ≤ 5) (hn : numB PA 0 A = true) (hp : p.size = 32) : folB9 zz32 ⟨PA, 0, 0, A, p⟩ = decide (chH chainF zz32 A = p) := by
 have hb : btB ⟨PA, 0, 0, A, p⟩ = true := by
  unfold btB
  simp only [Bool.and_eq_true, decide_eq_true_eq]
  exact ⟨⟨⟨⟨⟨inB_yes hg.1 hg.2, by decide⟩, by omega⟩, by decide⟩, hp⟩, hn⟩
 unfold folB9
 rw [hb, decide_eq_true zz32_size]
 rfl
theorem Hd9.one {PA : Int} {A B : List Ev} (h : Hd9 PA A B) : folB9 zz32 ⟨PA, 0, 0, A, chH chainF zz32 A⟩ = true := by
 rw [fol_of9 h.al h.ga h.na (chH_size chainF_size zz32_size _)]
 exact decide_eq_true rfl
theorem Hd9.numset {PA : Int} {A B : List Ev} (h : Hd9 PA A B) (K : Nat) (E : Ev) (h1 : evB E = true) (h2 : E.ag = PA) (h3 : E.sq = (K : Int)) : numB PA 0 (A.set K E) = true := numB_yes fun i hi => by
 rw [List.length_set] at hi
 have hi2 : i < (A.set K E).length := by rw [List.length_set]; exact hi
 rw [evD_of hi2, List.getElem_set]
 split
 · rename_i e
   subst e
   exact ⟨h1, h2, by rw [h3]; omega⟩
 · have := numB_of h.na i hi
   rw [evD_of hi] at this
   exact this
def chE9 (PA : Int) (A : List Ev) (K : Nat) (x : S6) : Ev := mdE PA (K : Int) (evD A K).tm x
theorem Hd9.chg {PA : Int} {A B : List Ev} (h : Hd9 PA A B) (K : Nat) (hK : K < A.length) (x : S6) : evB (chE9 PA A K x) = true ∧ numB PA 0 (A.set K (chE9 PA A K x)) = true := by
 have he := h.ea _ (List.getElem_mem hK)
 have ht := (evB_of he).2.2.1
 have hd : evD A K = A[K] := evD_of hK
 have h1 : evB (chE9 PA A K x) = true := mdE_ok h.ga.1 h.ga.2 (by omega) (by have := h.al; omega) (by rw [hd]; exact ht.1) (by rw [hd]; exact ht.2) x
 obtain ⟨e1, e2, e3⟩ := mdE_ag PA (K : Int) (evD A K).tm x
 exact ⟨h1, h.numset K _ h1 e1 e2⟩
theorem Hd9.two {PA : Int} {A B : List Ev} (h : Hd9 PA A B) (K : Nat) (hK : K < A.length) (x : S6) : folB9 zz32 ⟨PA, 0, 0, A.set K (chE9 PA A K x), chH chainF zz32 A⟩ = decide (chH chainF zz32 (A.set K (chE9 PA A K x)) = chH chainF zz32 A) :=
 fol_of9 (by rw [List.length_set]; exact h.al) h.ga (h.chg K hK x).2 (chH_size chainF_size zz32_size _)
theorem set_same9 {A : List Ev} {K : Nat} (hK : K < A.length) : A.set K A[K] = A := by
 apply List.ext_getElem
 · rw [List.length_set]
 · intro i h1 h2
   rw [List.getElem_set]
   split
   · rename_i e; subst e; rfl
   · rfl
theorem Hd9.three {PA : Int} {A B : List Ev} (h : Hd9 PA A B) (K : Nat) (hK : K < A.length) (x : S6) :
 (chE9 PA A K x = A[K] ∧ chH chainF zz32 (A.set K (chE9 PA A K x)) = chH chainF zz32 A) ∨
 (¬ chE9 PA A K x = A[K] ∧ ¬ chH chainF zz32 (A.set K (chE9 PA A K x)) = chH chainF zz32 A) ∨
 (¬ chE9 PA A K x = A[K] ∧ chH chainF zz32 (A.set K (chE9 PA A K x)) = chH chainF zz32 A ∧ colD (chsL zz32 A) (chsL zz32 (A.set K (chE9 PA A K x))) = true) := by
 by_cases e : chE9 PA A K x = A[K]
 · left
   refine ⟨e, ?_⟩
   rw [e, set_same9 hK]
 · right
   by_cases e2 : chH chainF zz32 (A.set K (chE9 PA A K x)) = chH chainF zz32 A
   · right
     refine ⟨e, e2, ?_⟩
     have hev : ∀ y ∈ A.set K (chE9 PA A K x), evB y = true := fun y hy => by
      rcases List.mem_or_eq_of_mem_set hy with h9 | h9
      · exact h.ea y h9
      · rw [h9]; exact (h.chg K hK x).1
     rcases chain_bound9 zz32_size h.ea hev (by rw [List.length_set]) e2.symm with h9 | h9
     · have h8 : (A.set K (chE9 PA A K x))[K]'(by rw [List.length_set]; exact hK) = chE9 PA A K x := List.getElem_set_self _
       have h7 : A[K] = (A.set K (chE9 PA A K x))[K]'(by rw [List.length_set]; exact hK) := by
        congr 1
       exact absurd (h8.symm.trans h7.symm) (fun q => e q)
     · exact h9
   · exact .inl ⟨e, e2⟩
theorem Hd9.cases {PA : Int} {A B : List Ev} (h : Hd9 PA A B) : (A = B ∧ chH chainF zz32 A = chH chainF zz32 B) ∨ (¬ A = B ∧ ¬ chH chainF zz32 A = chH chainF zz32 B) ∨ (¬ A = B ∧ chH chainF zz32 A = chH chainF zz32 B ∧ colD (chsL zz32 A) (chsL zz32 B) = true) := by
 by_cases e : A = B
 · exact .inl ⟨e, by rw [e]⟩
 · right
   by_cases e2 : chH chainF zz32 A = chH chainF zz32 B
   · right
     rcases chain_bound9 zz32_size h.ea h.eb h.bl.symm e2 with h9 | h9
     · exact absurd h9 e
     · exact ⟨e, e2, h9⟩
   · exact .inl ⟨e, e2⟩
end Go.Proofs.YtnpfhcnjkekhbaaGreatDoor

namespace Go.Proofs.YtnpfhcnjkekhbaaGreatDoor
open Go Go.Proofs Go.RowKit Go.Lib Go.Maps
def CapZ9 (e : Ending) : Prop := ∀ n c er, e = .returned (.tuple #[.slice none n c, er]) → c = 0
theorem capz9 {ad : Option Addr} {n c : Nat} {er : Value} (h : ad = none → c = 0) : CapZ9 (.returned (.tuple #[.slice ad n c, er])) := fun n2 c2 er2 e => by
 simp at e
 obtain ⟨⟨h1, _, h3⟩, _⟩ := e
 rw [← h3]
 exact h h1
theorem tp_snoc9 {W4 W9 : World} {n base : Nat} {l : List Ev} {x : List Int} {raws : List PV} {p : PV} {v : Value} {vs : List BV} (ht : Tp9 n l x raws W4) (h1 : p.i = raws.length) (h2 : p.hd = chH chainF zz32 (l.take (endK x (raws.length + 1)).toNat)) (hE : Own KE W4 n (.slice p.ad (x.getD raws.length 0).toNat p.c) (evP l x raws.length))
 (ho : Own KB9 W4 base v vs) (hg : W4.grownBy W9 v.ownBlock) : Tp9 n l x (raws ++ [p]) W9 :=
 (ht.snoc h1 h2 hE).kept fun k cs fz _ hk => hg.block k (Array.getElem?_eq_some_iff.1 hk).1 fun e => by
  rcases ho.2 with ⟨hv, _⟩ | ⟨g, cap, cur, hv, _, hgg, _⟩
  · rw [hv] at e; cases e
  · rw [hv] at e
    have e : k = g := by injection e
    subst e
    rw [hgg] at hk
    injection hk with hk
    injection hk with _ h3 _
    exact absurd h3 (by decide)
theorem spl_no9 {ag : Int} {l : List Ev} {x y : List Int} (h : ¬ SplOk ag l x y) : splB ag l x y = false := by
 cases hb : splB ag l x y with
 | false => rfl
 | true => exact absurd ((splB_iff _ _ _ _).1 hb) h
theorem splOk_end9 {ag : Int} {l : List Ev} {x y : List Int} (h : SplOk ag l x y) (k : Nat) : endK x k ≤ (l.length : Int) := by
 have := endK_le (fun v hv => (h.xb v hv).1) k
 rw [h.xs] at this
 exact this
theorem ne_own9 {v v' : Value} {B s : Nat} (h : v.ownBlock ≠ some B) (hk : v'.ownBlock = v.ownBlock ∨ v'.ownBlock = some s) (hB : B < s) : v'.ownBlock ≠ some B := fun e => by
 rcases hk with h9 | h9
 · exact h (h9 ▸ e)
 · rw [h9] at e; injection e with e; omega
def tr9 (l : List Ev) (a q : Nat) (n : Int) : Prop := ∀ j, a ≤ j → j < q → j < l.length → n ≤ (evD l j).tr
theorem tr9_end {l : List Ev} {a : Nat} {n : Int} (h : tr9 l a l.length n) : keepB n (l.drop a) = true := (keepB_iff _ _).2 fun e he => by
 obtain ⟨j, hj, rfl⟩ := List.getElem_of_mem he
 rw [List.length_drop] at hj
 rw [List.getElem_drop]
 have := h (a + j) (by omega) (by omega) (by omega)
 rw [evD_of (by omega)] at this
 exact this
theorem tr9_no {l : List Ev} {a q : Nat} {n : Int} (ha : a ≤ q) (hq : q < l.length) (h : ¬ n ≤ (evD l q).tr) : ¬ keepB n (l.drop a) = true := fun hk => by
 apply h
 have := (keepB_iff _ _).1 hk (l[q]'hq) (by
  rw [List.mem_iff_getElem]
  refine ⟨q - a, by rw [List.length_drop]; omega, ?_⟩
  rw [List.getElem_drop]
  congr 1
  omega)
 rw [evD_of hq]
 exact this
theorem splitR9_any (ag : Int) (ad : Option Addr) (c : Nat) (l : List Ev) (xad : Option Addr) (xc : Nat) (x : List Int) (yad : Option Addr) (yc : Nat) (y : List Int)
 (hl : l.length ≤ 1000) (hlc : l.length ≤ c) (hnil : ad = none → c = 0) (hx : x.length ≤ 200) (w : World) (hI : RL KE w ad l) (hX : RL KI w xad x) (hY : RL KI w yad y) :
 Calls Tryz.prog 31 #[.int .i64 ag, .slice ad l.length c, .slice xad x.length xc, .slice yad y.length yc] w (fun e w' => SplPost w ag l x y e w' ∧ CapZ9 e) := by
 obtain ⟨SB, hSB⟩ : ∃ SB, splB ag l x y = SB := ⟨_, rfl⟩
 have HSB := Lib.hid hSB
 have HNO := Lib.hid (fun h : ¬ SplOk ag l x y => show splB ag l x y = false from spl_no9 h)
 have HFAIL := Lib.hid (fun W (hb : Below w.heap.size w W) (h : splB ag l x y = false) => show SplPost w ag l x y (.returned (.tuple #[.slice none 0 0, .int .i64 90])) W ∧ CapZ9 (.returned (.tuple #[.slice none 0 0, .int .i64 90])) from ⟨⟨hb, .inl ⟨h, rfl⟩⟩, capz9 (fun _ => rfl)⟩)
 have HC := Lib.hid (fun k hk => hI.ev k hk)
 have HXC := Lib.hid (fun k hk => hX.int k hk)
 have HYC := Lib.hid (fun k hk => hY.int k hk)
 have HI := Lib.hid (fun W (b : Below w.heap.size w W) => hI.below b)
 have HLN := Lib.hid hl
 have HXN := Lib.hid hx
 have HCA := Lib.hid (And.intro hlc hnil)
 have hl' : ¬ (1000 : Int) < (l.length : Int) := by omega
 have hx' : ¬ (200 : Int) < (x.length : Int) := by omega
 have hld : decide ((1000 : Int) < (l.length : Int)) = false := decide_eq_false hl'
 have hxd : decide ((200 : Int) < (x.length : Int)) = false := decide_eq_false hx'
 clear hI hX hY hlc hnil hSB hl hx
 cases h1 : inB ag 0 5 with
 | false =>
  have HF := Lib.hid (HNO.out (fun h => by have := h.ga; rw [inB_yes this.1 this.2] at h1; cases h1))
  go_enter Tryz.func31, Tryz.ntmps31
  go_wp2_with (go_at_call 49; refine (inR9_any _ _ _ _).mono ?_; rintro e z ⟨rfl, hz⟩; subst z)
  go_ret2
  exact HFAIL.out _ (Below.refl _ _) HF.out
 | true =>
  have H1 := Lib.hid h1
  by_cases hyx : (y.length : Int) = (x.length : Int)
  rotate_left
  · have HF := Lib.hid (HNO.out (fun h => hyx (by have := h.yn; omega)))
    have hyd : ((y.length : Int) != (x.length : Int)) = true := by rw [bne, beq_eq_false_iff_ne.2 hyx]; rfl
    clear hyx
    go_enter Tryz.func31, Tryz.ntmps31
    go_wp2_with (go_at_call 49; refine (inR9_any _ _ _ _).mono ?_; rintro e z ⟨rfl, hz⟩; subst z)
    go_ret2
    exact HFAIL.out _ (Below.refl _ _) HF.out
  have HYX := Lib.hid (show y.length = x.length by omega)
  have hyd : ((y.length : Int) != (x.length : Int)) = false := by rw [bne, beq_iff_eq.2 hyx]; rfl
  clear hyx
  go_enter Tryz.func31, Tryz.ntmps31
  go_wp2_with (go_at_call 49; refine (inR9_any _ _ _ _).mono ?_; rintro e z ⟨rfl, hz⟩; subst z)
  clear h1 hyd hld hxd hl' hx'
  go_loopw [10] (fun i wr => ∃ k : Nat, i = .int .i64 k ∧ k ≤ l.length ∧ Hid (∀ j, j < k → evB (evD l j) = true ∧ (evD l j).ag = ag ∧ (evD l j).sq = (j : Int)) ∧ Hid (Below w.heap.size w wr)) (fun i _ => l.length - (RowKit.intOf i).toNat)
  case atStart => exact ⟨0, rfl, Nat.zero_le _, Lib.hid (fun j hj => by omega), Lib.hid (Below.refl _ _)⟩
  case round =>
   obtain ⟨k, rfl, hk, HO, HW⟩ := hrel
   by_cases hlt : k < l.length
   · have hki : (k : Int) < (l.length : Int) := by omega
     have hwk : IntKind.i64.wrap ((k : Int) + 1) = (k : Int) + 1 := IntWalk.i64_in _ (by have := HLN.out; omega)
     obtain ⟨xb, xo, rfl, _, hxc⟩ := HC.out k hlt
     have HEC := Lib.hid (fun W (bw : Below w.heap.size w W) => hxc W bw)
     obtain ⟨d0, d1, d2, d3, d4, d5, d6, d7, d8, d9, d10, d11⟩ := HEC.out wr HW.out
     have hik := fun W => at_ev8 xb xo l.length c k hlt W
     have HLT := Lib.hid hlt
     have hgd := evD_of hlt
     have HN := Lib.hid (fun h : ¬ (evB (evD l k) = true ∧ (evD l k).ag = ag ∧ (evD l k).sq = (k : Int)) => HNO.out (fun hb => h (by
      have := numB_of hb.nm k hlt
      exact ⟨this.1, this.2.1, by rw [this.2.2]; omega⟩)))
     have HS := Lib.hid (show (evB (evD l k) = true ∧ (evD l k).ag = ag ∧ (evD l k).sq = (k : Int)) → ∀ j, j < k + 1 → evB (evD l j) = true ∧ (evD l j).ag = ag ∧ (evD l j).sq = (j : Int) from fun h j hj => by
      rcases Nat.lt_or_ge j k with h9 | h9
      · exact HO.out j h9
      · obtain rfl : j = k := by omega
        exact h)
     rw [hgd] at HN HS
     generalize l[k]'hlt = ex at *
     have HE := Lib.hid (fun W => eventR_any ex W)
     rw [Ev.val_mk] at HE
     clear hxc hgd hlt hk
     go_wp2_with fail
     refine (HE.out _).mono ?_
     rintro e z ⟨rfl, hz⟩
     have HZ := Lib.hid (below_up8 HW.out hz)
     clear hz d0 d1 d2 d3 d4 d5 d6 d7 d8 d9 d10 d11
     obtain ⟨d0, d1, d2, d3, d4, d5, d6, d7, d8, d9, d10, d11⟩ := HEC.out z HZ.out
     cases hev : evB ex with
     | false =>
      have HF := Lib.hid (HN.out (fun h => by rw [hev] at h; cases h.1))
      clear hev
      go_wp2_with fail
      go_ret2
      exact HFAIL.out _ HZ.out HF.out
     | true =>
      by_cases hag : ex.ag = ag
      · by_cases hsq : ex.sq = (k : Int)
        · have HS2 := Lib.hid (HS.out ⟨hev, hag, hsq⟩)
          clear hev
          go_wp2_with fail
          go_roundw
          case rel => exact ⟨k + 1, by go_num, HLT.out, HS2, HZ⟩
          case measure => have := HLT.out; simp [RowKit.intOf]; omega
        · have HF := Lib.hid (HN.out (fun h => hsq h.2.2))
          clear hev
          go_wp2_with fail
          go_ret2
          exact HFAIL.out _ HZ.out HF.out
      · have HF := Lib.hid (HN.out (fun h => hag h.2.1))
        clear hev
        go_wp2_with fail
        go_ret2
        exact HFAIL.out _ HZ.out HF.out
   · have hke : k = l.length := by omega
     subst hke
     have hki : ¬ (l.length : Int) < (l.length : Int) := by omega
     generalize wr = wp at *
     have HNM := Lib.hid (show numB ag 0 l = true from numB_yes fun i hi => by
      have := HO.out i hi
      exact ⟨this.1, this.2.1, by rw [this.2.2]; omega⟩)
     have HEV := Lib.hid (numB_ev HNM.out)
     clear hlt hk HO
     go_wp2_with fail
     refine (zeroR9_any _).mono ?_
     rintro e w2 ⟨rfl, hb⟩
     have HB2 := Lib.hid (below_up8 HW.out hb)
     clear hb hki HW
     obtain ⟨U, hU⟩ : ∃ U : Nat → ByteArray, U = fun k => chH chainF zz32 (l.take (endK x k).toNat) := ⟨_, rfl⟩
     have HU0 := Lib.hid (show zz32 = U 0 from by rw [hU]; rfl)
     have HU := Lib.hid hU
     clear hU
     go_wp2_with fail
     go_loopw [12, 13, 14, 15] (fun v a h i wr => ∃ k : Nat, i = .int .i64 k ∧ k ≤ x.length ∧ a = .int .i64 (endK x k) ∧ h = .string (U k) ∧ ∃ sad sc, v = .slice sad k sc ∧ Hid (∃ raws : List PV, raws.length = k ∧ Own KB9 wr w.heap.size (.slice sad k sc) (raws.map (PV.bv ag x y)) ∧ Tp9 w.heap.size l x raws wr) ∧
      Hid (∀ j, j < k → (0 ≤ x.getD j 0 ∧ x.getD j 0 ≤ 24) ∧ ptB9 l x y j = true ∧ (0 ≤ y.getD j 0 ∧ y.getD j 0 ≤ 1000)) ∧ Hid (0 ≤ endK x k ∧ endK x k ≤ (l.length : Int)) ∧ Hid (Below w.heap.size w wr)) (fun _ _ _ i _ => x.length - (RowKit.intOf i).toNat)
     case atStart => exact ⟨0, rfl, Nat.zero_le _, rfl, by rw [← HU0.out], none, 0, rfl, Lib.hid ⟨[], rfl, Own.nil _ _ _, fun j hj => absurd hj (Nat.not_lt_zero _)⟩, Lib.hid (fun j hj => by omega), Lib.hid ⟨by rw [endK_zero]; omega, by rw [endK_zero]; omega⟩, HB2⟩
     case round =>
      obtain ⟨k, rfl, hk, rfl, rfl, sad, sc, rfl, HR, HP, HE, HW⟩ := hrel
      by_cases hlt : k < x.length
      · have hki : (k : Int) < (x.length : Int) := by omega
        have hwk : IntKind.i64.wrap ((k : Int) + 1) = (k : Int) + 1 := IntWalk.i64_in _ (by have := HXN.out; omega)
        obtain ⟨xb, xo, rfl, _, hxc⟩ := HXC.out k hlt
        have hyl : k < y.length := by rw [HYX.out]; exact hlt
        obtain ⟨yb, yo, rfl, _, hyc⟩ := HYC.out k hyl
        have HXV := Lib.hid (fun W (b : Below w.heap.size w W) => hxc W b)
        have HYV := Lib.hid (fun W (b : Below w.heap.size w W) => hyc W b)
        have ixx := fun W => at_int9z xb xo x.length xc k hlt W
        have ixy := fun W => at_int9z yb yo y.length yc k hyl W
        have HLT := Lib.hid hlt
        have HGX := Lib.hid (show x.getD k 0 = x[k] by rw [List.getD_eq_getElem?_getD, List.getElem?_eq_getElem hlt]; rfl)
        have HGY := Lib.hid (show y.getD k 0 = y[k] by rw [List.getD_eq_getElem?_getD, List.getElem?_eq_getElem hyl]; rfl)
        have HST := Lib.hid (endK_step hlt)
        have HXM := Lib.hid (List.getElem_mem hlt)
        have HYM := Lib.hid (List.getElem_mem hyl)
        generalize x[k]'hlt = xk at *
        generalize y[k]'hyl = yk at *
        have c0 := HXV.out wr HW.out
        have c1 := HYV.out wr HW.out
        clear hxc hyc hlt hyl hk
        cases hxk : inB xk 0 24 with
        | false =>
         have HF := Lib.hid (HNO.out (fun h => by have := h.xb _ HXM.out; rw [inB_yes this.1 this.2] at hxk; cases hxk))
         go_wp2_with (go_at_call 49; refine (inR9_any _ _ _ _).mono ?_; rintro e z ⟨rfl, hz⟩; subst z)
         go_ret2
         exact HFAIL.out _ HW.out HF.out
        | true =>
         have HXK := Lib.hid (of_inB hxk)
         have hws : IntKind.i64.wrap (endK x k + xk) = endK x k + xk := IntWalk.i64_in _ (by have := HXK.out; have := HE.out; have := HLN.out; omega)
         have HEK := Lib.hid hws
         by_cases hfit : (l.length : Int) < endK x k + xk
         · have HF := Lib.hid (HNO.out (fun h => by have := splOk_end9 h (k + 1); rw [HST.out] at this; omega))
           have hfd : decide ((l.length : Int) < endK x k + xk) = true := decide_eq_true hfit
           go_wp2_with (go_at_call 49; refine (inR9_any _ _ _ _).mono ?_; rintro e z ⟨rfl, hz⟩; subst z)
           go_ret2
           exact HFAIL.out _ HW.out HF.out
         have hfd : decide ((l.length : Int) < endK x k + xk) = false := decide_eq_false hfit
         have HFT := Lib.hid (show endK x k + xk ≤ (l.length : Int) by omega)
         obtain ⟨pad, hsl, hrl, hpn⟩ := KE.cut9 ad l.length c (endK x k) (endK x k + xk) HE.out.1 (by have := HXK.out; omega) HFT.out HCA.out.1 HCA.out.2
         have hsz : (endK x k + xk).toNat - (endK x k).toNat = (evP l x k).length := by
          unfold evP
          rw [List.length_take, List.length_drop, HGX.out]
          have := HXK.out; have := HE.out; have := HFT.out
          omega
         have hxn : (x.getD k 0).toNat = (evP l x k).length := by
          rw [← hsz, HGX.out]
          have := HXK.out; have := HE.out
          omega
         have HEP := Lib.hid (show ∀ W, Below w.heap.size w W → RL KE W pad (evP l x k) from fun W b => by
          have := hrl W l (HI.out W b) rfl
          unfold evP
          rw [HGX.out]
          rw [show (endK x k + xk).toNat - (endK x k).toNat = xk.toNat by have := HXK.out; have := HE.out; omega] at this
          exact this)
         rw [hsz] at hsl
         have hsl := (fun W => show (Instr.slice 24 (.slice ad l.length c) (some (.int .i64 (endK x k))) (some (.int .i64 (endK x k + xk))) none).run Tryz.prog W = .ok (.slice pad (evP l x k).length (c - (endK x k).toNat)) W from hsl W)
         have HPN := Lib.hid hpn
         have HXN2 := Lib.hid hxn
         have HPZ := Lib.hid (show (evP l x k).length ≤ 24 from by rw [← hxn, HGX.out]; have := HXK.out; omega)
         have HPM := Lib.hid (show ∀ e ∈ evP l x k, evB e = true from fun e he => HEV.out e (List.mem_of_mem_drop (List.mem_of_mem_take he)))
         obtain ⟨Q, hQ⟩ : ∃ Q, evP l x k = Q := ⟨_, rfl⟩
         rw [hQ] at HEP hsl HXN2 HPZ HPM
         have HQ := Lib.hid hQ
         obtain ⟨pc, hpc⟩ : ∃ pc, c - (endK x k).toNat = pc := ⟨_, rfl⟩
         rw [hpc] at hsl HPN
         obtain ⟨a, ha⟩ : ∃ a, endK x k = a := ⟨_, rfl⟩
         rw [ha] at hsl hws hfit hfd HE HST HFT ⊢
         have HA := Lib.hid ha
         clear hrl hpn hsz hxn hQ hpc ha
         go_upto_region 17 with (go_at_call 49; refine (inR9_any _ _ _ _).mono ?_; rintro e z ⟨rfl, hz⟩; subst z)
         clear hfit hfd c0 c1
         go_cut [16] from 95 to 112 (fun s16 wx => ∃ B1 ead ec, s16 = .pointer (some ⟨B1, 0, none⟩) ∧ Hid (Below wr.heap.size wr wx ∧ wr.heap.size ≤ B1 ∧ CellsAt wx B1 [.int .i64 ag, .int .i64 a, .slice ead Q.length ec, .int .i64 yk, .string ⟨#[]⟩] ∧ Own KE wx wr.heap.size (.slice ead Q.length ec) Q ∧ (Value.slice ead Q.length ec).ownBlock ≠ some B1))
         case first =>
          skip
          refine wp_region_noPanic ?_
          refine wp_region_Kx (C := NewB wr) [19] 19 #[false, false, false, false, false, false, false, false, false, false, false, false, false, false, false, false, false, false, false, false] (by kernel_rfl) (by kernel_rfl) (by kernel_rfl) (newB0 _) ?_
          intro wx hwx
          refine wpAnyK_ex (i := 0) rfl (by kernel_rfl) (listed' := #[true, false, false, false, false, false, false, false, false, false, false, false, false, false, false, false, false, false, false, false]) rfl (fun _ _ _ _ _ h => h) hwx ?_
          apply Exists.intro
          refine ⟨⟨by kernel_rfl, fun wy hw => ?_⟩, ?_⟩
          · (have bw := hw.below; have c0 := HXV.out _ (below_up8 HW.out bw); have c1 := HYV.out _ (below_up8 HW.out bw); go_simp; try (first | (with_reducible rfl) | (with_reducible exact ⟨rfl, rfl⟩)))
          try simp only [Act.put, List.getElem_toArray, List.getElem_cons_zero, List.setIfInBounds_toArray, List.set_cons_succ, List.set_cons_zero]
          refine wpAnyK_ex (i := 1) rfl (by kernel_rfl) (listed' := #[true, true, false, false, false, false, false, false, false, false, false, false, false, false, false, false, false, false, false, false]) rfl (fun _ _ _ _ _ h => h) hwx ?_
          apply Exists.intro
          refine ⟨⟨by kernel_rfl, fun wy hw => ?_⟩, ?_⟩
          · (have bw := hw.below; have c0 := HXV.out _ (below_up8 HW.out bw); have c1 := HYV.out _ (below_up8 HW.out bw); go_simp; try (first | (with_reducible rfl) | (with_reducible exact ⟨rfl, rfl⟩)))
          try simp only [Act.put, List.getElem_toArray, List.getElem_cons_succ, List.getElem_cons_zero, List.setIfInBounds_toArray, List.set_cons_succ, List.set_cons_zero]
          refine wpAnyK_ex (i := 3) rfl (by kernel_rfl) (listed' := #[true, true, false, true, false, false, false, false, false, false, false, false, false, false, false, false, false, false, false, false]) rfl (fun _ _ _ _ _ h => h) hwx ?_
          apply Exists.intro
          refine ⟨⟨by kernel_rfl, fun wy hw => ?_⟩, ?_⟩
          · (have bw := hw.below; have c0 := HXV.out _ (below_up8 HW.out bw); have c1 := HYV.out _ (below_up8 HW.out bw); go_simp; try (first | (with_reducible rfl) | (with_reducible exact ⟨rfl, rfl⟩)))
          try simp only [Act.put, List.getElem_toArray, List.getElem_cons_succ, List.getElem_cons_zero, List.setIfInBounds_toArray, List.set_cons_succ, List.set_cons_zero]
          refine wpAnyK_ex (i := 4) rfl (by kernel_rfl) (listed' := #[true, true, false, true, true, false, false, false, false, false, false, false, false, false, false, false, false, false, false, false]) rfl (fun _ _ _ _ _ h => h) hwx ?_
          apply Exists.intro
          refine ⟨⟨by kernel_rfl, fun wy hw => ?_⟩, ?_⟩
          · (have bw := hw.below; have c0 := HXV.out _ (below_up8 HW.out bw); have c1 := HYV.out _ (below_up8 HW.out bw); go_simp; try (first | (with_reducible rfl) | (with_reducible exact ⟨rfl, rfl⟩)))
          try simp only [Act.put, List.getElem_toArray, List.getElem_cons_succ, List.getElem_cons_zero, List.setIfInBounds_toArray, List.set_cons_succ, List.set_cons_zero]
          refine wpAnyK_ex (i := 5) rfl (by kernel_rfl) (listed' := #[true, true, false, true, true, true, false, false, false, false, false, false, false, false, false, false, false, false, false, false]) rfl (fun _ _ _ _ _ h => h) hwx ?_
          apply Exists.intro
          refine ⟨⟨by kernel_rfl, fun wy hw => ?_⟩, ?_⟩
          · (have bw := hw.below; have c0 := HXV.out _ (below_up8 HW.out bw); have c1 := HYV.out _ (below_up8 HW.out bw); go_simp; try (first | (with_reducible rfl) | (with_reducible exact ⟨rfl, rfl⟩)))
          try simp only [Act.put, List.getElem_toArray, List.getElem_cons_succ, List.getElem_cons_zero, List.setIfInBounds_toArray, List.set_cons_succ, List.set_cons_zero]
          refine wpAnyK_ex (i := 6) rfl (by kernel_rfl) (listed' := #[true, true, false, true, true, true, true, false, false, false, false, false, false, false, false, false, false, false, false, false]) rfl (fun _ _ _ _ _ h => h) hwx ?_
          apply Exists.intro
          refine ⟨⟨by kernel_rfl, fun wy hw => ?_⟩, ?_⟩
          · (have bw := hw.below; have c0 := HXV.out _ (below_up8 HW.out bw); have c1 := HYV.out _ (below_up8 HW.out bw); go_simp; try (first | (with_reducible rfl) | (with_reducible exact ⟨rfl, rfl⟩)))
          try simp only [Act.put, List.getElem_toArray, List.getElem_cons_succ, List.getElem_cons_zero, List.setIfInBounds_toArray, List.set_cons_succ, List.set_cons_zero]
          refine wpAnyK_ex (i := 7) rfl (by kernel_rfl) (listed' := #[true, true, false, true, true, true, true, true, false, false, false, false, false, false, false, false, false, false, false, false]) rfl (fun _ _ _ _ _ h => h) hwx ?_
          apply Exists.intro
          refine ⟨⟨by kernel_rfl, fun wy hw => ?_⟩, ?_⟩
          · (have bw := hw.below; have c0 := HXV.out _ (below_up8 HW.out bw); have c1 := HYV.out _ (below_up8 HW.out bw); go_simp; try (first | (with_reducible rfl) | (with_reducible exact ⟨rfl, rfl⟩)))
          try simp only [Act.put, List.getElem_toArray, List.getElem_cons_succ, List.getElem_cons_zero, List.setIfInBounds_toArray, List.set_cons_succ, List.set_cons_zero]
          refine wpAnyK_ex (i := 8) rfl (by kernel_rfl) (listed' := #[true, true, false, true, true, true, true, true, true, false, false, false, false, false, false, false, false, false, false, false]) rfl (fun _ _ _ _ _ h => h) hwx ?_
          apply Exists.intro
          refine ⟨⟨by kernel_rfl, fun wy hw => ?_⟩, ?_⟩
          · (have bw := hw.below; have c0 := HXV.out _ (below_up8 HW.out bw); have c1 := HYV.out _ (below_up8 HW.out bw); go_simp; try (first | (with_reducible rfl) | (with_reducible exact ⟨rfl, rfl⟩)))
          try simp only [Act.put, List.getElem_toArray, List.getElem_cons_succ, List.getElem_cons_zero, List.setIfInBounds_toArray, List.set_cons_succ, List.set_cons_zero]
          refine wpAnyK_ex (i := 9) rfl (by kernel_rfl) (listed' := #[true, true, false, true, true, true, true, true, true, true, false, false, false, false, false, false, false, false, false, false]) rfl (fun _ _ _ _ _ h => h) hwx ?_
          apply Exists.intro
          refine ⟨⟨by kernel_rfl, fun wy hw => ?_⟩, ?_⟩
          · (have bw := hw.below; have c0 := HXV.out _ (below_up8 HW.out bw); have c1 := HYV.out _ (below_up8 HW.out bw); go_simp; try (first | (with_reducible rfl) | (with_reducible exact ⟨rfl, rfl⟩)))
          try simp only [Act.put, List.getElem_toArray, List.getElem_cons_succ, List.getElem_cons_zero, List.setIfInBounds_toArray, List.set_cons_succ, List.set_cons_zero]
          refine wpAnyK_ex (i := 10) rfl (by kernel_rfl) (listed' := #[true, true, false, true, true, true, true, true, true, true, true, false, false, false, false, false, false, false, false, false]) rfl (fun _ _ _ _ _ h => h) hwx ?_
          apply Exists.intro
          refine ⟨⟨by kernel_rfl, fun wy hw => ?_⟩, ?_⟩
          · (have bw := hw.below; have c0 := HXV.out _ (below_up8 HW.out bw); have c1 := HYV.out _ (below_up8 HW.out bw); go_simp; try (first | (with_reducible rfl) | (with_reducible exact ⟨rfl, rfl⟩)))
          try simp only [Act.put, List.getElem_toArray, List.getElem_cons_succ, List.getElem_cons_zero, List.setIfInBounds_toArray, List.set_cons_succ, List.set_cons_zero]
          refine wpAnyK_ex (i := 11) rfl (by kernel_rfl) (listed' := #[true, true, false, true, true, true, true, true, true, true, true, true, false, false, false, false, false, false, false, false]) rfl (fun _ _ _ _ _ h => h) hwx ?_
          apply Exists.intro
          refine ⟨⟨by kernel_rfl, fun wy hw => ?_⟩, ?_⟩
          · (have bw := hw.below; have c0 := HXV.out _ (below_up8 HW.out bw); have c1 := HYV.out _ (below_up8 HW.out bw); go_simp; try (first | (with_reducible rfl) | (with_reducible exact ⟨rfl, rfl⟩)))
          try simp only [Act.put, List.getElem_toArray, List.getElem_cons_succ, List.getElem_cons_zero, List.setIfInBounds_toArray, List.set_cons_succ, List.set_cons_zero]
          refine wpAnyK_ex (i := 13) rfl (by kernel_rfl) (listed' := #[true, true, false, true, true, true, true, true, true, true, true, true, false, true, false, false, false, false, false, false]) rfl (fun _ _ _ _ _ h => h) hwx ?_
          apply Exists.intro
          refine ⟨⟨by kernel_rfl, fun wy hw => ?_⟩, ?_⟩
          · (have bw := hw.below; have c0 := HXV.out _ (below_up8 HW.out bw); have c1 := HYV.out _ (below_up8 HW.out bw); go_simp; try (first | (with_reducible rfl) | (with_reducible exact ⟨rfl, rfl⟩)))
          try simp only [Act.put, List.getElem_toArray, List.getElem_cons_succ, List.getElem_cons_zero, List.setIfInBounds_toArray, List.set_cons_succ, List.set_cons_zero]
          refine wpAnyK_ex (i := 14) rfl (by kernel_rfl) (listed' := #[true, true, false, true, true, true, true, true, true, true, true, true, false, true, true, false, false, false, false, false]) rfl (fun _ _ _ _ _ h => h) hwx ?_
          apply Exists.intro
          refine ⟨⟨by kernel_rfl, fun wy hw => ?_⟩, ?_⟩
          · (have bw := hw.below; have c0 := HXV.out _ (below_up8 HW.out bw); have c1 := HYV.out _ (below_up8 HW.out bw); go_simp; try (first | (with_reducible rfl) | (with_reducible exact ⟨rfl, rfl⟩)))
          try simp only [Act.put, List.getElem_toArray, List.getElem_cons_succ, List.getElem_cons_zero, List.setIfInBounds_toArray, List.set_cons_succ, List.set_cons_zero]
          refine wpAnyK_ex (i := 15) rfl (by kernel_rfl) (listed' := #[true, true, false, true, true, true, true, true, true, true, true, true, false, true, true, true, false, false, false, false]) rfl (fun _ _ _ _ _ h => h) hwx ?_
          apply Exists.intro
          refine ⟨⟨by kernel_rfl, fun wy hw => ?_⟩, ?_⟩
          · (have bw := hw.below; have c0 := HXV.out _ (below_up8 HW.out bw); have c1 := HYV.out _ (below_up8 HW.out bw); go_simp; try (first | (with_reducible rfl) | (with_reducible exact ⟨rfl, rfl⟩)))
          try simp only [Act.put, List.getElem_toArray, List.getElem_cons_succ, List.getElem_cons_zero, List.setIfInBounds_toArray, List.set_cons_succ, List.set_cons_zero]
          refine wpAnyK_ex (i := 16) rfl (by kernel_rfl) (listed' := #[true, true, false, true, true, true, true, true, true, true, true, true, false, true, true, true, true, false, false, false]) rfl (fun _ _ _ _ _ h => h) hwx ?_
          apply Exists.intro
          refine ⟨⟨by kernel_rfl, fun wy hw => ?_⟩, ?_⟩
          · (have bw := hw.below; have c0 := HXV.out _ (below_up8 HW.out bw); have c1 := HYV.out _ (below_up8 HW.out bw); go_simp; try (first | (with_reducible rfl) | (with_reducible exact ⟨rfl, rfl⟩)))
          try simp only [Act.put, List.getElem_toArray, List.getElem_cons_succ, List.getElem_cons_zero, List.setIfInBounds_toArray, List.set_cons_succ, List.set_cons_zero]
          refine wpAnyK_fork2 2 18 (by kernel_rfl) ?_ ?_
          · skip
            obtain ⟨wp1, Vp1, Zp1, _, Bp1⟩ := lay8 wx [] 23
            have Vp1 := (show wx.alloc (.cells #[] 23) = wp1 from Vp1)
            have HX1 := Lib.hid (show Below wr.heap.size wr wp1 from below_up8 hwx.below Bp1)
            have HO1 := Lib.hid (show Own KE wp1 wr.heap.size (.slice (some ⟨wx.heap.size, 0, none⟩) 0 0) [] from by rw [← Vp1]; exact new9z KE wx wr.heap.size [] (Below.size hwx.below) (by simp) [] rfl 23 rfl 0 rfl)
            clear Zp1 Bp1
            refine wpOpK_step rfl (by kernel_rfl) (listed' := #[true, true, true, true, true, true, true, true, true, true, true, true, false, true, true, true, true, false, false, false]) rfl (by kernel_rfl) (fun K hK => ?_)
            go_simp
            refine hK _ _ HX1.out ?_
            clear hK K Vp1
            try simp only [Act.put, List.getElem_toArray, List.getElem_cons_succ, List.getElem_cons_zero, List.setIfInBounds_toArray, List.set_cons_succ, List.set_cons_zero]
            refine wpAnyK_fork2 12 18 (by kernel_rfl) ?_ ?_
            · skip
              refine wpOpK_step rfl (by kernel_rfl) (listed' := #[true, true, true, true, true, true, true, true, true, true, true, true, true, true, true, true, true, false, false, false]) rfl (by kernel_rfl) (fun K hK => ?_)
              refine oper_append8 KE _ _ rfl wr.heap.size (.slice (some ⟨wx.heap.size, 0, none⟩) 0 0) [] Q rfl HO1.out (Below.size HX1.out) pad Q.length pc rfl rfl (HEP.out _ (below_up8 HW.out HX1.out)) HPN.out (by have h9 := HPZ.out; simp only [List.length_nil]; omega) ?_
              intro v2 w2 ho2 hg2 hk2
              rw [List.nil_append] at ho2
              obtain ⟨ead, ec, ee2, _⟩ := ho2.form
              subst ee2
              have HO2 := Lib.hid ho2
              have HX2 := Lib.hid (show Below wr.heap.size wr w2 from HX1.out.trans ((Below.refl _ _).grown hg2 (Below.size HX1.out) (fun j hj => (HO1.out.ge j hj).1)))
              clear ho2 hk2 hg2
              refine hK _ _ HX2.out ?_
              clear hK K
              try simp only [Act.put, List.getElem_toArray, List.getElem_cons_succ, List.getElem_cons_zero, List.setIfInBounds_toArray, List.set_cons_succ, List.set_cons_zero]
              refine wpAnyK_ex (i := 17) rfl (by kernel_rfl) (listed' := #[true, true, true, true, true, true, true, true, true, true, true, true, true, true, true, true, true, true, false, false]) rfl (fun _ _ _ _ _ h => h) HX2.out ?_
              apply Exists.intro
              refine ⟨⟨by kernel_rfl, fun wy hw => ?_⟩, ?_⟩
              · (have bw := hw.below; have c0 := HXV.out _ (below_up8 HW.out bw); have c1 := HYV.out _ (below_up8 HW.out bw); go_simp; try (first | (with_reducible rfl) | (with_reducible exact ⟨rfl, rfl⟩)))
              try simp only [Act.put, List.getElem_toArray, List.getElem_cons_succ, List.getElem_cons_zero, List.setIfInBounds_toArray, List.set_cons_succ, List.set_cons_zero]
              refine wpAnyK_fork1 18 (by kernel_rfl) ?_
              obtain ⟨wp3, Vp3, Zp3, Kp3, Bp3⟩ := lay8 w2 [.int .i64 0, .int .i64 0, .slice none 0 0, .int .i64 0, .string ⟨#[]⟩] 26
              have HX3 := Lib.hid (show Below wr.heap.size wr wp3 from below_up8 HX2.out Bp3)
              have HK3 := Lib.hid Kp3
              have HG3 := Lib.hid (show wr.heap.size ≤ w2.heap.size from Below.size HX2.out)
              have HL3 := Lib.hid (show w2.heap.size < wp3.heap.size from by omega)
              have HO3 := Lib.hid (HO2.out.below Bp3 (Nat.le_refl _))
              have HN3 := Lib.hid (show (Value.slice ead Q.length ec : Value).ownBlock ≠ some w2.heap.size from fun e => by have := (HO2.out.ge _ e).2; omega)
              clear Kp3
              clear Zp3 Bp3
              refine wpOpK_step rfl (by kernel_rfl) (listed' := #[true, true, true, true, true, true, true, true, true, true, true, true, true, true, true, true, true, true, true, false]) rfl (by kernel_rfl) (fun K hK => ?_)
              go_simp
              refine hK _ _ HX3.out ?_
              clear hK K Vp3
              try simp only [Act.put, List.getElem_toArray, List.getElem_cons_succ, List.getElem_cons_zero, List.setIfInBounds_toArray, List.set_cons_succ, List.set_cons_zero]
              refine wpAnyK_end (by kernel_rfl) ?_
              try simp only [pickOps, List.filterMap_cons, List.filterMap_nil, List.getElem?_toArray, List.getElem?_cons_succ, List.getElem?_cons_zero]
              obtain ⟨m0, m0'⟩ := HK3.out 0 (by simp); obtain ⟨m1, m1'⟩ := HK3.out 1 (by simp); obtain ⟨m2, m2'⟩ := HK3.out 2 (by simp); obtain ⟨m3, m3'⟩ := HK3.out 3 (by simp); obtain ⟨m4, m4'⟩ := HK3.out 4 (by simp)
              simp only [List.getElem_cons_zero, List.getElem_cons_succ] at m0 m1 m2 m3 m4
              go_wp2_with fail
              refine NoPanic.normal ?_
              go_wp2_with fail
              go_meet
              refine ⟨_, ead, ec, rfl, Lib.hid ⟨?_, HG3.out, ((((HK3.out.put 0 _).put 1 _).put 2 _).put 3 _).put 4 _, ((((HO3.out.far HN3.out).far HN3.out).far HN3.out).far HN3.out).far HN3.out, HN3.out⟩⟩
              exact ((((HX3.out.setCell HG3.out _).setCell HG3.out _).setCell HG3.out _).setCell HG3.out _).setCell HG3.out _
            · skip
              obtain ⟨wp4, Vp4, Zp4, Kp4, Bp4⟩ := lay8 wp1 [.int .i64 0, .int .i64 0, .slice none 0 0, .int .i64 0, .string ⟨#[]⟩] 26
              have HX4 := Lib.hid (show Below wr.heap.size wr wp4 from below_up8 HX1.out Bp4)
              have HK4 := Lib.hid Kp4
              have HG4 := Lib.hid (show wr.heap.size ≤ wp1.heap.size from Below.size HX1.out)
              have HL4 := Lib.hid (show wp1.heap.size < wp4.heap.size from by omega)
              have HO4 := Lib.hid (HO1.out.below Bp4 (Nat.le_refl _))
              have HN4 := Lib.hid (show (Value.slice (some ⟨wx.heap.size, 0, none⟩) 0 0 : Value).ownBlock ≠ some wp1.heap.size from fun e => by have := (HO1.out.ge _ e).2; omega)
              clear Kp4
              clear Zp4 Bp4
              refine wpOpK_step rfl (by kernel_rfl) (listed' := #[true, true, true, true, true, true, true, true, true, true, true, true, false, true, true, true, true, false, true, false]) rfl (by kernel_rfl) (fun K hK => ?_)
              go_simp
              refine hK _ _ HX4.out ?_
              clear hK K Vp4
              try simp only [Act.put, List.getElem_toArray, List.getElem_cons_succ, List.getElem_cons_zero, List.setIfInBounds_toArray, List.set_cons_succ, List.set_cons_zero]
              refine wpAnyK_fork1 12 (by kernel_rfl) ?_
              refine wpOpK_step rfl (by kernel_rfl) (listed' := #[true, true, true, true, true, true, true, true, true, true, true, true, true, true, true, true, true, false, true, false]) rfl (by kernel_rfl) (fun K hK => ?_)
              refine oper_append8 KE _ _ rfl wr.heap.size (.slice (some ⟨wx.heap.size, 0, none⟩) 0 0) [] Q rfl HO4.out (Below.size HX4.out) pad Q.length pc rfl rfl (HEP.out _ (below_up8 HW.out HX4.out)) HPN.out (by have h9 := HPZ.out; simp only [List.length_nil]; omega) ?_
              intro v5 w5 ho5 hg5 hk5
              rw [List.nil_append] at ho5
              obtain ⟨ead, ec, ee5, _⟩ := ho5.form
              subst ee5
              have HO5 := Lib.hid ho5
              have HX5 := Lib.hid (show Below wr.heap.size wr w5 from HX4.out.trans ((Below.refl _ _).grown hg5 (Below.size HX4.out) (fun j hj => (HO4.out.ge j hj).1)))
              have HK5 := Lib.hid (HK4.out.grown hg5 (fun e => HN4.out e.symm))
              have HN5 := Lib.hid (show (Value.slice ead Q.length ec).ownBlock ≠ some wp1.heap.size from ne_own9 HN4.out hk5 HL4.out)
              have HL5 := Lib.hid (show wp1.heap.size < w5.heap.size from by have := hg5.size; have := HL4.out; omega)
              clear ho5 hk5 hg5
              refine hK _ _ HX5.out ?_
              clear hK K
              try simp only [Act.put, List.getElem_toArray, List.getElem_cons_succ, List.getElem_cons_zero, List.setIfInBounds_toArray, List.set_cons_succ, List.set_cons_zero]
              refine wpAnyK_ex (i := 17) rfl (by kernel_rfl) (listed' := #[true, true, true, true, true, true, true, true, true, true, true, true, true, true, true, true, true, true, true, false]) rfl (fun _ _ _ _ _ h => h) HX5.out ?_
              apply Exists.intro
              refine ⟨⟨by kernel_rfl, fun wy hw => ?_⟩, ?_⟩
              · (have bw := hw.below; have c0 := HXV.out _ (below_up8 HW.out bw); have c1 := HYV.out _ (below_up8 HW.out bw); go_simp; try (first | (with_reducible rfl) | (with_reducible exact ⟨rfl, rfl⟩)))
              try simp only [Act.put, List.getElem_toArray, List.getElem_cons_succ, List.getElem_cons_zero, List.setIfInBounds_toArray, List.set_cons_succ, List.set_cons_zero]
              refine wpAnyK_end (by kernel_rfl) ?_
              try simp only [pickOps, List.filterMap_cons, List.filterMap_nil, List.getElem?_toArray, List.getElem?_cons_succ, List.getElem?_cons_zero]
              obtain ⟨m0, m0'⟩ := HK5.out 0 (by simp); obtain ⟨m1, m1'⟩ := HK5.out 1 (by simp); obtain ⟨m2, m2'⟩ := HK5.out 2 (by simp); obtain ⟨m3, m3'⟩ := HK5.out 3 (by simp); obtain ⟨m4, m4'⟩ := HK5.out 4 (by simp)
              simp only [List.getElem_cons_zero, List.getElem_cons_succ] at m0 m1 m2 m3 m4
              go_wp2_with fail
              refine NoPanic.normal ?_
              go_wp2_with fail
              go_meet
              refine ⟨_, ead, ec, rfl, Lib.hid ⟨?_, HG4.out, ((((HK5.out.put 0 _).put 1 _).put 2 _).put 3 _).put 4 _, ((((HO5.out.far HN5.out).far HN5.out).far HN5.out).far HN5.out).far HN5.out, HN5.out⟩⟩
              exact ((((HX5.out.setCell HG4.out _).setCell HG4.out _).setCell HG4.out _).setCell HG4.out _).setCell HG4.out _
          · skip
            obtain ⟨wp6, Vp6, Zp6, Kp6, Bp6⟩ := lay8 wx [.int .i64 0, .int .i64 0, .slice none 0 0, .int .i64 0, .string ⟨#[]⟩] 26
            have HX6 := Lib.hid (show Below wr.heap.size wr wp6 from below_up8 hwx.below Bp6)
            have HK6 := Lib.hid Kp6
            have HG6 := Lib.hid (show wr.heap.size ≤ wx.heap.size from Below.size hwx.below)
            have HL6 := Lib.hid (show wx.heap.size < wp6.heap.size from by omega)
            clear Kp6
            clear Zp6 Bp6
            refine wpOpK_step rfl (by kernel_rfl) (listed' := #[true, true, false, true, true, true, true, true, true, true, true, true, false, true, true, true, true, false, true, false]) rfl (by kernel_rfl) (fun K hK => ?_)
            go_simp
            refine hK _ _ HX6.out ?_
            clear hK K Vp6
            try simp only [Act.put, List.getElem_toArray, List.getElem_cons_succ, List.getElem_cons_zero, List.setIfInBounds_toArray, List.set_cons_succ, List.set_cons_zero]
            refine wpAnyK_fork1 2 (by kernel_rfl) ?_
            obtain ⟨wp7, Vp7, Zp7, _, Bp7⟩ := lay8 wp6 [] 23
            have Vp7 := (show wp6.alloc (.cells #[] 23) = wp7 from Vp7)
            have HX7 := Lib.hid (show Below wr.heap.size wr wp7 from below_up8 HX6.out Bp7)
            have HO7 := Lib.hid (show Own KE wp7 wr.heap.size (.slice (some ⟨wp6.heap.size, 0, none⟩) 0 0) [] from by rw [← Vp7]; exact new9z KE wp6 wr.heap.size [] (Below.size HX6.out) (by simp) [] rfl 23 rfl 0 rfl)
            have HK7 := Lib.hid (HK6.out.below Bp7)
            have HN7 := Lib.hid (show (Value.slice (some ⟨wp6.heap.size, 0, none⟩) 0 0).ownBlock ≠ some wx.heap.size from fun e => by have e3 := Option.some.inj (show some wp6.heap.size = some wx.heap.size from e); have := HL6.out; omega)
            have HL7 := Lib.hid (show wx.heap.size < wp7.heap.size from by have := HL6.out; omega)
            clear Zp7 Bp7
            refine wpOpK_step rfl (by kernel_rfl) (listed' := #[true, true, true, true, true, true, true, true, true, true, true, true, false, true, true, true, true, false, true, false]) rfl (by kernel_rfl) (fun K hK => ?_)
            go_simp
            refine hK _ _ HX7.out ?_
            clear hK K Vp7
            try simp only [Act.put, List.getElem_toArray, List.getElem_cons_succ, List.getElem_cons_zero, List.setIfInBounds_toArray, List.set_cons_succ, List.set_cons_zero]
            refine wpAnyK_fork1 12 (by kernel_rfl) ?_
            refine wpOpK_step rfl (by kernel_rfl) (listed' := #[true, true, true, true, true, true, true, true, true, true, true, true, true, true, true, true, true, false, true, false]) rfl (by kernel_rfl) (fun K hK => ?_)
            refine oper_append8 KE _ _ rfl wr.heap.size (.slice (some ⟨wp6.heap.size, 0, none⟩) 0 0) [] Q rfl HO7.out (Below.size HX7.out) pad Q.length pc rfl rfl (HEP.out _ (below_up8 HW.out HX7.out)) HPN.out (by have h9 := HPZ.out; simp only [List.length_nil]; omega) ?_
            intro v8 w8 ho8 hg8 hk8
            rw [List.nil_append] at ho8
            obtain ⟨ead, ec, ee8, _⟩ := ho8.form
            subst ee8
            have HO8 := Lib.hid ho8
            have HX8 := Lib.hid (show Below wr.heap.size wr w8 from HX7.out.trans ((Below.refl _ _).grown hg8 (Below.size HX7.out) (fun j hj => (HO7.out.ge j hj).1)))
            have HK8 := Lib.hid (HK7.out.grown hg8 (fun e => HN7.out e.symm))
            have HN8 := Lib.hid (show (Value.slice ead Q.length ec).ownBlock ≠ some wx.heap.size from ne_own9 HN7.out hk8 HL7.out)
            have HL8 := Lib.hid (show wx.heap.size < w8.heap.size from by have := hg8.size; have := HL7.out; omega)
            clear ho8 hk8 hg8
            refine hK _ _ HX8.out ?_
            clear hK K
            try simp only [Act.put, List.getElem_toArray, List.getElem_cons_succ, List.getElem_cons_zero, List.setIfInBounds_toArray, List.set_cons_succ, List.set_cons_zero]
            refine wpAnyK_ex (i := 17) rfl (by kernel_rfl) (listed' := #[true, true, true, true, true, true, true, true, true, true, true, true, true, true, true, true, true, true, true, false]) rfl (fun _ _ _ _ _ h => h) HX8.out ?_
            apply Exists.intro
            refine ⟨⟨by kernel_rfl, fun wy hw => ?_⟩, ?_⟩
            · (have bw := hw.below; have c0 := HXV.out _ (below_up8 HW.out bw); have c1 := HYV.out _ (below_up8 HW.out bw); go_simp; try (first | (with_reducible rfl) | (with_reducible exact ⟨rfl, rfl⟩)))
            try simp only [Act.put, List.getElem_toArray, List.getElem_cons_succ, List.getElem_cons_zero, List.setIfInBounds_toArray, List.set_cons_succ, List.set_cons_zero]
            refine wpAnyK_end (by kernel_rfl) ?_
            try simp only [pickOps, List.filterMap_cons, List.filterMap_nil, List.getElem?_toArray, List.getElem?_cons_succ, List.getElem?_cons_zero]
            obtain ⟨m0, m0'⟩ := HK8.out 0 (by simp); obtain ⟨m1, m1'⟩ := HK8.out 1 (by simp); obtain ⟨m2, m2'⟩ := HK8.out 2 (by simp); obtain ⟨m3, m3'⟩ := HK8.out 3 (by simp); obtain ⟨m4, m4'⟩ := HK8.out 4 (by simp)
            simp only [List.getElem_cons_zero, List.getElem_cons_succ] at m0 m1 m2 m3 m4
            go_wp2_with fail
            refine NoPanic.normal ?_
            go_wp2_with fail
            go_meet
            refine ⟨_, ead, ec, rfl, Lib.hid ⟨?_, HG6.out, ((((HK8.out.put 0 _).put 1 _).put 2 _).put 3 _).put 4 _, ((((HO8.out.far HN8.out).far HN8.out).far HN8.out).far HN8.out).far HN8.out, HN8.out⟩⟩
            exact ((((HX8.out.setCell HG6.out _).setCell HG6.out _).setCell HG6.out _).setCell HG6.out _).setCell HG6.out _
         case rest =>
          obtain ⟨B1, ead, ec, rfl, HX⟩ := hcut
          generalize wc = wA at *
          generalize wr = wo at *
          have HBA := Lib.hid HX.out.1
          have HGE := Lib.hid HX.out.2.1
          have HK1 := Lib.hid HX.out.2.2.1
          have HO1 := Lib.hid HX.out.2.2.2.1
          have HN1 := Lib.hid HX.out.2.2.2.2
          have HWA := Lib.hid (below_up8 HW.out HBA.out)
          have HL1 := Lib.hid (World.block_lt_of_cell? wA ⟨B1, 0, none⟩ (HK1.out 0 (by simp)).1)
          have c0 := HXV.out wA HWA.out
          obtain ⟨N1, hN1⟩ : ∃ N1 : Nat, a + xk = (N1 : Int) := ⟨(a + xk).toNat, by have := HE.out; have := HXK.out; omega⟩
          have HN9 := Lib.hid hN1
          clear HX hsl hN1
          skip
          go_wp2_with fail
          go_loopw [17] (fun i wq => ∃ q : Nat, i = .int .i64 (q : Int) ∧ N1 ≤ q ∧ Hid (tr9 l N1 q yk) ∧ Hid (Below wA.heap.size wA wq)) (fun i _ => l.length - (RowKit.intOf i).toNat)
          case atStart => exact ⟨N1, by rw [HN9.out], Nat.le_refl _, Lib.hid (fun j h1 h2 _ => by omega), Lib.hid (Below.refl _ _)⟩
          case round =>
           clear c0
           obtain ⟨q, rfl, hq, HT, HV⟩ := hrel
           generalize wr = wq at *
           by_cases hqt : q < l.length
           · have hqi : (q : Int) < (l.length : Int) := by omega
             have hwq : IntKind.i64.wrap ((q : Int) + 1) = (q : Int) + 1 := IntWalk.i64_in _ (by have := HLN.out; omega)
             obtain ⟨eb, eo, rfl, _, hec⟩ := HC.out q hqt
             have d4 := (hec wq (below_up8 HWA.out HV.out)).2.2.2.2.1
             have c1 := HYV.out wq (below_up8 HWA.out HV.out)
             have ixe := fun W => at_ev8 eb eo l.length c q hqt W
             have HQT := Lib.hid (And.intro hq hqt)
             have hgd := evD_of hqt
             have HTN := Lib.hid (fun (h : yk ≤ (evD l q).tr) => show tr9 l N1 (q + 1) yk from fun j h1 h2 h3 => by
              rcases Nat.lt_or_ge j q with h9 | h9
              · exact HT.out j h1 h9 h3
              · obtain rfl : j = q := by omega
                exact h)
             have HTX := Lib.hid (fun (h : ¬ yk ≤ (evD l q).tr) => HNO.out (fun hs => by
              have hp := hs.pt k HLT.out
              unfold ptB9 at hp
              rw [Bool.and_eq_true] at hp
              have h2 := hp.2
              rw [HGY.out, HST.out, HN9.out, Int.toNat_natCast] at h2
              exact tr9_no hq hqt h h2))
             rw [hgd] at HTN HTX
             generalize (l[q]'hqt).tr = tr at *
             clear hec hgd hqt hq
             by_cases hge : yk ≤ tr
             · have hlt9 : ¬ tr < yk := by omega
               have HT2 := Lib.hid (HTN.out hge)
               clear hge
               go_wp2_with fail
               go_quiet (fail)
               go_wp2_with fail
               go_roundw
               case rel => exact ⟨q + 1, by go_num, by have := HQT.out.1; omega, HT2, Lib.hid (below_same HV.out rfl rfl rfl rfl)⟩
               case measure => have := HQT.out.2; simp [RowKit.intOf]; omega
             · have hlt9 : tr < yk := by omega
               have HF := Lib.hid (HTX.out hge)
               clear hge
               go_wp2_with fail
               go_quiet (fail)
               go_wp2_with fail
               go_ret2
               exact HFAIL.out _ (below_same (below_up8 HWA.out HV.out) rfl rfl rfl rfl) HF.out
           · have hqi : ¬ (q : Int) < (l.length : Int) := by omega
             have HKB := Lib.hid (show keepB yk (l.drop N1) = true from tr9_end fun j h1 h2 h3 => HT.out j h1 (by omega) h3)
             clear hqt hq HT
             have HGN := Lib.hid (show chH chainF (U k) Q = U (k + 1) from by
              rw [HU.out]
              show chH chainF (chH chainF zz32 (l.take (endK x k).toNat)) Q = chH chainF zz32 (l.take (endK x (k + 1)).toNat)
              rw [← chH_append, HST.out, ← HQ.out]
              unfold evP
              rw [HGX.out, HA.out, show (a + xk).toNat = a.toNat + xk.toNat by have := HXK.out; have := HE.out; omega]
              congr 1
              exact List.take_add.symm)
             have HUZ := Lib.hid (show ∀ k, (U k).size = 32 from by rw [HU.out]; exact fun k => chH_size chainF_size zz32_size _)
             have HCH := Lib.hid (show Calls Tryz.prog 18 #[.string (U k), .slice ead Q.length ec] wq (fun e w' => e = .returned (.tuple #[.string (U (k + 1)), .int .i64 0]) ∧ Below wq.heap.size wq w') from by
              have h := chainR9_any (U k) ead ec Q (by unfold maxLen; have := HPZ.out; omega) wq (rl_own8 (HO1.out.below HV.out (Nat.le_refl _)))
              obtain ⟨e1, e2⟩ := chainV_yes (h := U k) (l := Q) (HUZ.out k) HPM.out
              rw [e1, e2, HGN.out] at h
              exact h)
             have k2 := (show wq.cell? ⟨B1, 2, none⟩ = some (.slice ead Q.length ec) from (HK1.out.below HV.out 2 (by simp)).1)
             obtain ⟨G, hG⟩ : ∃ G, U (k + 1) = G := ⟨_, rfl⟩
             rw [hG] at HCH
             have HG := Lib.hid hG
             clear hG
             go_wp2_with fail
             refine HCH.out.mono ?_
             rintro e wD ⟨rfl, hb⟩
             have HVD := Lib.hid (below_up8 HV.out hb)
             clear hb HCH k2 HV
             have KD := Lib.hid (HK1.out.below HVD.out)
             obtain ⟨k4, k4'⟩ := KD.out 4 (by simp)
             have k4 := (show wD.cell? ⟨B1, 4, none⟩ = some (.string ⟨#[]⟩) from k4)
             obtain ⟨wE, VE⟩ : ∃ wE, wD.setCell ⟨B1, 4, none⟩ (.string G) = wE := ⟨_, rfl⟩
             have KE1 := Lib.hid (show CellsAt wE B1 [.int .i64 ag, .int .i64 a, .slice ead Q.length ec, .int .i64 yk, .string G] from by rw [← VE]; exact KD.out.put 4 _)
             have HBE := Lib.hid (show Below wo.heap.size wo wE from by rw [← VE]; exact (below_up8 HBA.out HVD.out).setCell HGE.out _)
             have HOE := Lib.hid (show Own KE wE wo.heap.size (.slice ead Q.length ec) Q from by rw [← VE]; exact (HO1.out.below HVD.out (Nat.le_refl _)).far HN1.out)
             have HWE := Lib.hid (below_up8 HW.out HBE.out)
             obtain ⟨y0, y1, y2, y3, y4⟩ := (show wE.cell? ⟨B1, 0, none⟩ = some (.int .i64 ag) ∧ wE.cell? ⟨B1, 1, none⟩ = some (.int .i64 a) ∧ wE.cell? ⟨B1, 2, none⟩ = some (.slice ead Q.length ec) ∧ wE.cell? ⟨B1, 3, none⟩ = some (.int .i64 yk) ∧ wE.cell? ⟨B1, 4, none⟩ = some (.string G) from ⟨(KE1.out 0 (by simp)).1, (KE1.out 1 (by simp)).1, (KE1.out 2 (by simp)).1, (KE1.out 3 (by simp)).1, (KE1.out 4 (by simp)).1⟩)
             have HVL := Lib.hid (show Calls Tryz.prog 16 #[.agg #[.int .i64 ag, .int .i64 a, .slice ead Q.length ec, .int .i64 yk, .string G]] wE (fun e w' => e = .returned (.bool (btB ⟨ag, a, yk, Q, G⟩)) ∧ Below wE.heap.size wE w') from
              validR9_any ⟨ag, a, yk, Q, G⟩ ead ec (by show Q.length ≤ maxLen; unfold maxLen; have := HPZ.out; omega) wE (rl_own8 HOE.out))
             have HBF := Lib.hid (fun (h : ¬ btB ⟨ag, a, yk, Q, G⟩ = true) => HNO.out (fun hs => h (by
              have hb := hs.bt chainF_size k HLT.out
              have e : partE chainF ag l x y k = ⟨ag, a, yk, Q, G⟩ := by
               show (⟨ag, endK x k, y.getD k 0, evP l x k, chH chainF zz32 (l.take (endK x (k + 1)).toNat)⟩ : Bt) = _
               rw [HA.out, HGY.out, HQ.out, show chH chainF zz32 (l.take (endK x (k + 1)).toNat) = G from by rw [← HG.out, HU.out]]
              rw [e] at hb
              exact hb)))
             have HBT := Lib.hid (fun (h : btB ⟨ag, a, yk, Q, G⟩ = true) => show ∀ j, j < k + 1 → (0 ≤ x.getD j 0 ∧ x.getD j 0 ≤ 24) ∧ ptB9 l x y j = true ∧ (0 ≤ y.getD j 0 ∧ y.getD j 0 ≤ 1000) from fun j hj => by
              rcases Nat.lt_or_ge j k with h9 | h9
              · exact HP.out j h9
              · obtain rfl : j = k := by omega
                have hb := btB_of h
                refine ⟨by rw [HGX.out]; exact HXK.out, ?_, by rw [HGY.out]; exact hb.2.2.2.1⟩
                unfold ptB9
                rw [HA.out, HGY.out, HST.out, HN9.out, Int.toNat_natCast, HKB.out, inB_yes hb.2.1.1 hb.2.1.2]
                rfl)
             go_wp2_with fail
             refine HVL.out.mono ?_
             rintro e wF ⟨rfl, hbF⟩
             clear VE k4 k4'
             have HBF2 := Lib.hid (below_up8 HBE.out hbF)
             have HWF := Lib.hid (below_up8 HW.out HBF2.out)
             have KF := Lib.hid (KE1.out.below hbF)
             have HOF := Lib.hid (HOE.out.below hbF (Nat.le_refl _))
             clear hbF y0 y1 y2 y3 y4 HVL
             cases hbt : btB ⟨ag, a, yk, Q, G⟩ with
             | false =>
              have HF := Lib.hid (HBF.out (by rw [hbt]; decide))
              go_wp2_with fail
              go_ret2
              exact HFAIL.out _ HWF.out HF.out
             | true =>
              have HP2 := Lib.hid (HBT.out hbt)
              clear hbt HBT HBF
              obtain ⟨y0, y1, y2, y3, y4⟩ := (show wF.cell? ⟨B1, 0, none⟩ = some (.int .i64 ag) ∧ wF.cell? ⟨B1, 1, none⟩ = some (.int .i64 a) ∧ wF.cell? ⟨B1, 2, none⟩ = some (.slice ead Q.length ec) ∧ wF.cell? ⟨B1, 3, none⟩ = some (.int .i64 yk) ∧ wF.cell? ⟨B1, 4, none⟩ = some (.string G) from ⟨(KF.out 0 (by simp)).1, (KF.out 1 (by simp)).1, (KF.out 2 (by simp)).1, (KF.out 3 (by simp)).1, (KF.out 4 (by simp)).1⟩)
              obtain ⟨raws, hrl, hro, hrt⟩ := HR.out
              have HRL := Lib.hid hrl
              have HRT := Lib.hid hrt
              obtain ⟨wB, VB, ZB, KB, BB⟩ := lay8 wF [.int .i64 ag, .int .i64 a, .slice ead Q.length ec, .int .i64 yk, .string G] 26
              have VB := (show wF.alloc (.cells #[.int .i64 ag, .int .i64 a, .slice ead Q.length ec, .int .i64 yk, .string G] 26) = wB from VB)
              have KB := Lib.hid (show CellsAt wB wF.heap.size (KB9.cs ⟨ag, a, ead, Q.length, ec, yk, G⟩) from KB)
              have HBB := Lib.hid (below_up8 HBF2.out BB)
              have HWB := Lib.hid (below_up8 HW.out HBB.out)
              have HOB := Lib.hid (hro.below HBB.out (Nat.le_refl _))
              have HEB := Lib.hid ((HOF.out.below BB (Nat.le_refl _)).base HW.out.size)
              have hz5 : w.heap.size ≤ wF.heap.size := HWF.out.size
              have hpl : (raws.map (PV.bv ag x y)).length = k := by rw [List.length_map]; exact hrl
              have HPL := Lib.hid hpl
              have hln : (raws.map (PV.bv ag x y)).length + 1 ≤ 100000000 := by rw [hpl]; have := HXN.out; have := HLT.out; omega
              clear ZB hro hrl hrt hpl BB
              go_wp2_with (at_builtin; refine walk_push8 KB9 (w0 := wB) rfl _ _ rfl w.heap.size (.slice sad k sc) (raws.map (PV.bv ag x y)) ⟨ag, a, ead, Q.length, ec, yk, G⟩ rfl HOB.out (Below.refl _ _) HWB.out.size _ 1 rfl KB.out hln ?_; intro v9 w9 ho9 hb9 hg9 hk9)
              have HW9 := Lib.hid (show Below w.heap.size w w9 from HWB.out.trans hb9)
              obtain ⟨sad9, sc9, e9, _⟩ := ho9.form
              have hl9 : (raws.map (PV.bv ag x y) ++ [(⟨ag, a, ead, Q.length, ec, yk, G⟩ : BV)]).length = k + 1 := by rw [List.length_append, HPL.out]; rfl
              rw [hl9] at e9
              subst e9
              have HRN := Lib.hid (show ∃ raws : List PV, raws.length = k + 1 ∧ Own KB9 w9 w.heap.size (.slice sad9 (k + 1) sc9) (raws.map (PV.bv ag x y)) ∧ Tp9 w.heap.size l x raws w9 from by
               refine ⟨raws ++ [⟨k, ead, ec, G⟩], by rw [List.length_append, HRL.out]; rfl, ?_, ?_⟩
               · have e : PV.bv ag x y ⟨k, ead, ec, G⟩ = ⟨ag, a, ead, Q.length, ec, yk, G⟩ := by
                  unfold PV.bv
                  rw [HA.out, HGY.out, HXN2.out]
                 rw [List.map_append, List.map_singleton, e]
                 exact ho9
               · refine tp_snoc9 (HRT.out.grow HBB.out) (by rw [HRL.out]) (by rw [HRL.out, ← HG.out, HU.out]) ?_ HOB.out hg9
                 rw [HRL.out, HXN2.out, HQ.out]
                 exact HEB.out)
              have HEN := Lib.hid (show 0 ≤ endK x (k + 1) ∧ endK x (k + 1) ≤ (l.length : Int) from by rw [HST.out]; have := HE.out; have := HXK.out; have := HFT.out; omega)
              have HAE := Lib.hid (show (N1 : Int) = endK x (k + 1) from by rw [HST.out]; exact HN9.out.symm)
              clear ho9 hb9 hg9 hk9 VB hl9 hln y0 y1 y2 y3 y4
              go_roundw
              case rel => exact ⟨k + 1, by go_num, HLT.out, by rw [HST.out], by rw [HG.out], sad9, sc9, rfl, HRN, HP2, HEN, HW9⟩
              case measure => have := HLT.out; simp [RowKit.intOf]; omega
      · have hke : k = x.length := by omega
        subst hke
        have hki : ¬ (x.length : Int) < (x.length : Int) := by omega
        clear hlt hk
        by_cases hfin : endK x x.length = (l.length : Int)
        · have HOKK := Lib.hid (show splB ag l x y = true from (splB_iff _ _ _ _).2 (by
           refine ⟨of_inB H1.out, HNM.out, HXN.out, fun v hv => ?_, by rw [← endK_all]; exact hfin, HYX.out, fun v hv => ?_, fun i hi => (HP.out i hi).2.1⟩
           · obtain ⟨i, hi, rfl⟩ := List.getElem_of_mem hv
             have := (HP.out i hi).1
             rw [List.getD_eq_getElem?_getD, List.getElem?_eq_getElem hi] at this
             exact this
           · obtain ⟨i, hi, rfl⟩ := List.getElem_of_mem hv
             have := (HP.out i (by rw [← HYX.out]; exact hi)).2.2
             rw [List.getD_eq_getElem?_getD, List.getElem?_eq_getElem hi] at this
             exact this))
          have hfd : (endK x x.length != (l.length : Int)) = false := by rw [bne, beq_iff_eq.2 hfin]; rfl
          have hfe : endK x x.length = (l.length : Int) := hfin
          have HEND := Lib.hid (show SplPost w ag l x y (.returned (.tuple #[.slice sad x.length sc, .int .i64 0])) wr ∧ CapZ9 (.returned (.tuple #[.slice sad x.length sc, .int .i64 0])) from by
           obtain ⟨raws, h1, h2, h3⟩ := HR.out
           obtain ⟨ad9, c9, e9, hc9, hr9⟩ := h2.rn
           injection e9 with e1 e2 e3
           subst e1 e3
           exact ⟨⟨HW.out, .inr ⟨HOKK.out, sad, sc, raws, rfl, by rw [List.length_map, h1] at hc9; exact hc9, h1, hr9, h3⟩⟩, capz9 (fun hn => by subst hn; exact own_none9 h2)⟩)
          clear hfin
          rw [hfe]
          clear hfe hfd
          go_wp2_with fail
          go_ret2
          exact HEND.out
        · have HF := Lib.hid (HNO.out (fun h => hfin (by rw [endK_all]; exact h.xs)))
          have hfd : (endK x x.length != (l.length : Int)) = true := by rw [bne, beq_eq_false_iff_ne.2 hfin]; rfl
          go_wp2_with fail
          go_ret2
          exact HFAIL.out _ HW.out HF.out
end Go.Proofs.YtnpfhcnjkekhbaaGreatDoor

namespace Go.Proofs.YtnpfhcnjkekhbaaGreatDoor
open Go Go.Proofs Go.RowKit Go.Lib Go.Maps
def btsL (ag : Int) (l : List Ev) (x y : List Int) : List Bt := (List.range x.length).map (partE chainF ag l x y)
def splL (ag : Int) (l : List Ev) (x y : List Int) : List Bt := if splB ag l x y = true then btsL ag l x y else []
def splE (ag : Int) (l : List Ev) (x y : List Int) : Int := if splB ag l x y = true then 0 else 90
theorem btsL_len (ag : Int) (l : List Ev) (x y : List Int) : (btsL ag l x y).length = x.length := by unfold btsL; simp
theorem btsL_get {ag : Int} {l : List Ev} {x y : List Int} {i : Nat} (h : i < (btsL ag l x y).length) : (btsL ag l x y)[i] = partE chainF ag l x y i := by
 simp [btsL]
theorem bts_of9 {n : Nat} {w' : World} {ag : Int} {l : List Ev} {x y : List Int} {raws : List PV} (hok : SplOk ag l x y) (hlr : raws.length = x.length) (ht : Tp9 n l x raws w') : BtsAt w' (raws.map (PV.bv ag x y)) (btsL ag l x y) := by
 refine ⟨by rw [List.length_map, hlr, btsL_len], fun i hi h2 => ?_⟩
 have hir : i < raws.length := by simpa using hi
 have hix : i < x.length := by rw [← hlr]; exact hir
 obtain ⟨t1, t2, t3⟩ := ht i hir
 rw [btsL_get h2, List.getElem_map]
 have hl := hok.len chainF i hix
 have hl : ((evP l x i).length : Int) = x.getD i 0 := hl
 have hrl : RL KE w' raws[i].ad (evP l x i) := rl_own8 t3
 refine ⟨rfl, ?_, ?_, ?_, ?_, hrl⟩
 · show endK x raws[i].i = endK x i
   rw [t1]
 · show (x.getD raws[i].i 0).toNat = (evP l x i).length
   rw [t1]
   omega
 · show y.getD raws[i].i 0 = y.getD i 0
   rw [t1]
 · show raws[i].hd = _
   rw [t2]
   rfl
def BsPost (w : World) (L : List Bt) (v : Value) (w' : World) : Prop := ∃ ad c vs, v = .slice ad L.length c ∧ L.length ≤ c ∧ (ad = none → c = 0) ∧ RN KB9 w' w.heap.size ad vs ∧ BtsAt w' vs L ∧ Below w.heap.size w w'
theorem spl_post9 {w w' : World} {ag : Int} {l : List Ev} {x y : List Int} {e : Ending} (h : SplPost w ag l x y e w') (hz : CapZ9 e) : ∃ v, e = .returned (.tuple #[v, .int .i64 (splE ag l x y)]) ∧ BsPost w (splL ag l x y) v w' := by
 obtain ⟨hb, ⟨h1, rfl⟩ | ⟨h1, sad, sc, raws, rfl, hc, hlr, hrn, ht⟩⟩ := h
 · have hn : ¬ splB ag l x y = true := by rw [h1]; decide
   unfold splE splL
   rw [if_neg hn, if_neg hn]
   exact ⟨_, rfl, none, 0, [], rfl, Nat.le_refl _, fun _ => rfl, .inl rfl, ⟨rfl, fun i hi => absurd hi (Nat.not_lt_zero _)⟩, hb⟩
 · have hok := (splB_iff _ _ _ _).1 h1
   unfold splE splL
   rw [if_pos h1, if_pos h1]
   refine ⟨_, rfl, sad, sc, raws.map (PV.bv ag x y), by rw [btsL_len], by rw [btsL_len]; exact hc, fun hn => ?_, hrn, bts_of9 hok hlr ht, hb⟩
   · subst hn
     exact hz _ _ _ rfl
theorem spl_post9b {w w' : World} {ag : Int} {l : List Ev} {x y : List Int} {e : Ending} (h : SplPost w ag l x y e w') : ∃ v, e = .returned (.tuple #[v, .int .i64 (splE ag l x y)]) ∧ ∃ ad c vs, v = .slice ad (splL ag l x y).length c ∧ RL KB9 w' ad vs ∧ BtsAt w' vs (splL ag l x y) ∧ Below w.heap.size w w' := by
 obtain ⟨hb, ⟨h1, rfl⟩ | ⟨h1, sad, sc, raws, rfl, hc, hlr, hrn, ht⟩⟩ := h
 · have hn : ¬ splB ag l x y = true := by rw [h1]; decide
   unfold splE splL
   rw [if_neg hn, if_neg hn]
   exact ⟨_, rfl, none, 0, [], rfl, .inl rfl, ⟨rfl, fun i hi => absurd hi (Nat.not_lt_zero _)⟩, hb⟩
 · have hok := (splB_iff _ _ _ _).1 h1
   unfold splE splL
   rw [if_pos h1, if_pos h1]
   exact ⟨_, rfl, sad, sc, raws.map (PV.bv ag x y), by rw [btsL_len], hrn.rl, bts_of9 hok hlr ht, hb⟩
theorem spl_len9 {ag : Int} {l : List Ev} {x y : List Int} (h : x.length ≤ 1000) : (splL ag l x y).length ≤ maxLen := by
 unfold splL maxLen
 split
 · rw [btsL_len]; omega
 · simp
theorem spl_evs9 {ag : Int} {l : List Ev} {x y : List Int} (h : l.length ≤ 1000) : ∀ b ∈ splL ag l x y, b.ev.length ≤ maxLen := fun b hb => by
 unfold splL at hb
 split at hb
 · obtain ⟨i, _, rfl⟩ := List.mem_map.1 hb
   show ((l.drop (endK x i).toNat).take (x.getD i 0).toNat).length ≤ maxLen
   rw [List.length_take, List.length_drop]
   unfold maxLen
   omega
 · cases hb
end Go.Proofs.YtnpfhcnjkekhbaaGreatDoor
