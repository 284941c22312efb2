/-
  Layer 9, the program: numbers, encoding.
-/
import Derived.Test.YtnpfhcnjkekhbaaGreatDoorProg
import Derived.Test.YtnpfhcnjkekhbaaGreatDoorK07
import Derived.Test.YtnpfhcnjkekhbaaGreatDoorK14
import Derived.Test.YtnpfhcnjkekhbaaGreatDoorK15
import Derived.Shelf.Strings.BuilderK
import Derived.Shelf.Strings.Repeat
import Derived.Maps.Own
import Derived.Maps.OwnOps
import Derived.Laws.Rows
import Derived.Laws.OwnMore
import Derived.OwnWalk
import Derived.WalkKit
import Derived.WalkLawsBesides
import Derived.Outline
import Derived.Lib.Hide
import Derived.Below
import Derived.BigQuiet
import Derived.Deep.QuietTactic
import Derived.Deep.RegionHeld3
import Derived.Lib.QuietBelow
import Derived.Deep.DeepCutAuto
import Derived.StillTail
import Derived.Lib.Varint
import Derived.Lib.SlBytesRow
import Derived.Shelf.Abstract
import Derived.OwnWalkIn
import Derived.TacticsInMore
import Derived.LoopNIn
import Derived.LoopIn
import Derived.RangeFuncNested
import Derived.RangeFuncBound
import Derived.RangeFuncCalls
import Derived.RangeFuncLeaves
set_option maxRecDepth 100000
set_option maxHeartbeats 16000000
namespace Go.Proofs.YtnpfhcnjkekhbaaGreatDoor
open Go Go.Proofs Go.RowKit Go.Lib Go.Maps
open W1 (encS putInt_yes uvarint_length9 zigzag_le)
/-! ### the builder -/
abbrev BldAt (B b : Nat) (l : List UInt8) (w : World) : Prop := Lib.IsBuilderF 100 5 B b (Lib.byteCells l) w
theorem bld_move {T e : TypeId} {B b n : Nat} {bs : List Value} {W W' : World} (h : Lib.IsBuilderF T e B b bs W) (hb : Below n W W') (hn : W.heap.size ≤ n) : Lib.IsBuilderF T e B b bs W' := by
 have hg : W.grownBy W' none := ⟨hb.os, hb.tape, hb.output, hb.size, fun k hk _ => hb.block k (Nat.lt_of_lt_of_le hk hn)⟩
 have one : ∀ p, Lib.BuilderAtF T e B b p bs W → Lib.BuilderAtF T e B b p bs W' := fun p h => by
  have hlt := h.lt
  obtain ⟨hB, v, hk, hown, hne⟩ := h
  exact ⟨hB, v, (hb.block b (Nat.lt_of_lt_of_le hlt hn)).trans hk, hown.kept hg (by cases v.ownBlock <;> simp), hne⟩
 exact h.elim (fun h => .inl (one _ h)) (fun h => .inr (one _ h))
theorem bld_new (w : World) : BldAt w.heap.size w.heap.size [] (w.alloc (.cells #[.pointer none, .slice none 0 0] 100)) :=
 Lib.IsBuilderF.of (Lib.fresh_isBuilder _ _ w)
theorem byteCells_app (a b : List UInt8) : Lib.byteCells a ++ Lib.byteCells b = Lib.byteCells (a ++ b) := by unfold Lib.byteCells; rw [List.map_append]
theorem encL_snoc (a : List Int) (x : Int) : encL (a ++ [x]) = encL a ++ encI x := by
 unfold encL
 rw [List.flatMap_append]
 simp
theorem encI_le {x : Int} (h : FitI x) : (encI x).length ≤ 9 := uvarint_length9 (zigzag_le h.1 h.2)
theorem encL_le : ∀ (l : List Int), (∀ x ∈ l, FitI x) → (encL l).length ≤ 9 * l.length
 | [], _ => by simp [encL]
 | x :: l, h => by
  have h1 := encI_le (h x List.mem_cons_self)
  have h2 := encL_le l fun y hy => h y (List.mem_cons_of_mem _ hy)
  rw [encL_cons, List.length_append, List.length_cons]
  omega
theorem encS_bytes (x : Int) : (encS x).data.toList = encI x := by unfold encS encI; simp
theorem encS_size (x : Int) : (encS x).size = (encI x).length := by rw [← encS_bytes, Array.length_toList]; rfl
theorem numbers_u (ad : Option Addr) (c : Nat) (l : List Int) (hl : l.length ≤ 100) (hfit : ∀ x ∈ l, FitI x) (w : World) (hI : RL KI w ad l) :
 Calls Tryz.prog 66 #[.slice ad l.length c] w fun e w' => e = .returned (.string ⟨(encL l).toArray⟩) ∧ Below w.heap.size w w' := by
 have HC := Lib.hid (fun k hk => hI.int k hk)
 have HFT := Lib.hid hfit
 have HN0 := Lib.hid (bld_new w)
 have HB0 := Lib.hid ((Below.refl w.heap.size w).alloc (Nat.le_refl _) (.cells #[.pointer none, .slice none 0 0] 100))
 obtain ⟨wb, hwb⟩ : ∃ wb, w.alloc (.cells #[.pointer none, .slice none 0 0] 100) = wb := ⟨_, rfl⟩
 rw [hwb] at HN0 HB0
 clear hI hfit
 go_enter Tryz.func66, Tryz.ntmps66
 go_wp2_with fail
 clear hwb
 go_loopw [10] (fun i wr => ∃ k : Nat, i = .int .i64 k ∧ k ≤ l.length ∧ Hid (BldAt w.heap.size w.heap.size (encL (l.take k)) wr) ∧ Hid (Below w.heap.size w wr)) (fun i _ => l.length - (RowKit.intOf i).toNat)
 case atStart => exact ⟨0, rfl, Nat.zero_le _, HN0, HB0⟩
 case round =>
  clear HN0 HB0
  obtain ⟨k, rfl, hk, HO, HB⟩ := hrel
  by_cases hlt : k < l.length
  · have hki : (k : Int) < (l.length : Int) := by omega
    obtain ⟨xb, xo, rfl, _, hxc⟩ := HC.out k hlt
    have c0 := hxc wr HB.out
    have hik := fun W => at_int8 xb xo l.length c k hlt W
    have HFX := Lib.hid (HFT.out _ (List.getElem_mem hlt))
    have HTK := Lib.hid (show encL (l.take (k + 1)) = encL (l.take k) ++ encI l[k] from by rw [List.take_succ_eq_append_getElem hlt, encL_snoc])
    have HLE := Lib.hid (show (encL (l.take k)).length ≤ 900 from by
     have := encL_le (l.take k) fun y hy => HFT.out y (List.mem_of_mem_take hy)
     rw [List.length_take] at this
     omega)
    have HLT := Lib.hid hlt
    generalize l[k]'hlt = x at *
    generalize encL (l.take k) = P at *
    have HPI := Lib.hid (fun W => putInt_yes x HFX.out.1 HFX.out.2 W)
    obtain ⟨S, hS⟩ : ∃ S, S = encS x := ⟨_, rfl⟩
    rw [← hS] at HPI
    have HS := Lib.hid hS
    clear hxc hlt hS
    go_wp2_with fail
    refine (HPI.out _).mono ?_
    rintro e w1 ⟨rfl, h1⟩
    have HB1 := Lib.hid (below_up8 HB.out h1)
    have HO1 := Lib.hid (bld_move HO.out h1 (Nat.le_refl _))
    clear h1 c0
    have HWR := Lib.hid (write9 w.heap.size w.heap.size (Lib.byteCells P) S w1 HO1.out (by rw [Lib.byteCells_length, HS.out, encS_size]; have := encI_le HFX.out; have := HLE.out; omega) HB1.out.size)
    go_wp2_with fail
    refine HWR.out.mono ?_
    rintro e w2 ⟨rfl, h2, h3, _⟩
    have HB2 := Lib.hid (HB1.out.trans h3)
    have HO2 := Lib.hid (show BldAt w.heap.size w.heap.size (P ++ encI x) w2 from by
     have := Or.inr (a := Lib.BuilderAtF 100 5 w.heap.size w.heap.size (.pointer none) (Lib.byteCells P ++ Lib.byteCells S.data.toList) w2) h2
     rw [byteCells_app, HS.out, encS_bytes] at this
     exact this)
    clear h2 h3 HWR
    go_wp2_with fail
    go_roundw
    case rel => exact ⟨k + 1, by go_num, HLT.out, by rw [HTK.out]; exact HO2, HB2⟩
    case measure => have := HLT.out; simp [RowKit.intOf]; omega
  · have hke : k = l.length := by omega
    have hki : ¬ (k : Int) < (l.length : Int) := by omega
    have HST := Lib.hid (string9 w.heap.size w.heap.size (encL (l.take k)) wr HO.out HB.out.size)
    have HTK := Lib.hid (show l.take k = l from by rw [hke, List.take_length])
    rw [HTK.out] at HST
    clear hke hlt
    go_wp2_with fail
    refine HST.out.mono ?_
    rintro e w1 ⟨rfl, h1⟩
    have HB1 := Lib.hid (HB.out.trans h1)
    clear h1 HST
    go_wp2_with fail
    go_ret
    exact ⟨rfl, HB1.out⟩
def encT (e : Ev) : ByteArray := ⟨(encE e).toArray⟩
theorem nums_len (e : Ev) : e.nums.length = 12 := rfl
theorem encoding_u (x : Ev) (hv : evB x = true) (w : World) :
 Calls Tryz.prog 39 #[x.val] w fun e w' => e = .returned (.string (encT x)) ∧ Below w.heap.size w w' := by
 obtain ⟨w1, V1, Z1, K1, B1⟩ := lay8 w x.cells 23
 have V1 := (show w.alloc (.cells #[.int .i64 x.ag, .int .i64 x.sq, .int .i64 x.tm, .int .i64 x.kd, .int .i64 x.tr, .int .i64 x.sp, .int .i64 x.lk, .int .i64 x.gn, .int .i64 x.op, .int .i64 x.vr, .int .i64 x.pe, .int .i64 x.bt] 23) = w1 from V1)
 obtain ⟨d0, d1, d2, d3, d4, d5, d6, d7, d8, d9, d10, d11⟩ := CellsAt.ev K1
 obtain ⟨w2, V2, Z2, K2, B2⟩ := lay8 w1 (x.nums.map (Value.int .i64)) 3
 have V2 := (show w1.alloc (.cells #[.int .i64 x.ag, .int .i64 x.sq, .int .i64 x.tm, .int .i64 x.kd, .int .i64 x.tr, .int .i64 x.sp, .int .i64 x.lk, .int .i64 x.gn, .int .i64 x.op, .int .i64 x.vr, .int .i64 x.pe, .int .i64 x.bt] 3) = w2 from V2)
 have HB := Lib.hid (below_up8 B1 B2)
 have HN := Lib.hid (show Calls Tryz.prog 66 #[.slice (some ⟨w1.heap.size, 0, none⟩) 12 12] w2 fun e w' => e = .returned (.string (encT x)) ∧ Below w2.heap.size w2 w' from
  numbers_u (some ⟨w1.heap.size, 0, none⟩) 12 x.nums (by rw [nums_len]; omega) (nums_fit hv) w2 (.inr ⟨w1.heap.size, 0, rfl, by omega, fun i hi j hj => by
   have hj0 : j = 0 := by have : j < 1 := hj; omega
   subst hj0
   have h := (K2 i (by rw [List.length_map]; exact hi)).1
   rw [List.getElem_map] at h
   rw [show 0 + KI.n * i + 0 = i by show 0 + 1 * i + 0 = i; omega, h]
   rfl⟩))
 rw [Ev.val_mk]
 rw [Z1] at HN
 clear hv K1 K2 B1 B2 Z2
 go_enter Tryz.func39, Tryz.ntmps39
 go_wp2_with fail
 refine HN.out.mono ?_
 rintro e w3 ⟨rfl, h3⟩
 have HB3 := Lib.hid (below_up8 HB.out h3)
 clear h3 V1 V2 d0 d1 d2 d3 d4 d5 d6 d7 d8 d9 d10 d11
 go_wp2_with fail
 go_ret
 exact ⟨rfl, HB3.out⟩
end Go.Proofs.YtnpfhcnjkekhbaaGreatDoor
