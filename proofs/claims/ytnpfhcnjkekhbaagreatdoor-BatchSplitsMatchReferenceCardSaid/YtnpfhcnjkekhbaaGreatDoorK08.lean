/-
  The contracts of wire.fold, wire.groups and of the iterator that groups returns: the groups of seven bits of a number are yielded, the least first.
-/
import Derived.Test.YtnpfhcnjkekhbaaGreatDoorProg
import Derived.Test.YtnpfhcnjkekhbaaGreatDoorK01
import Derived.Test.YtnpfhcnjkekhbaaGreatDoorK02
import Derived.Shelf.Abstract
import Derived.WalkKit
import Derived.OwnWalkIn
import Derived.TacticsInMore
import Derived.LoopNIn
import Derived.LoopIn
import Derived.Outline
import Derived.Lib.Hide
import Derived.Lib.Varint
import Derived.RangeFuncNested
import Derived.RangeFuncBound
import Derived.RangeFuncCalls
import Derived.RangeFuncLeaves
set_option maxRecDepth 100000
set_option maxHeartbeats 16000000
namespace Go.Proofs.YtnpfhcnjkekhbaaGreatDoor.W1
open Go Go.Proofs Go.RowKit Go.Lib
attribute [local go_sem] Oper.semAt_some
theorem ret_int {k : IntKind} {a b : Int} (h : a = b) : Ending.returned (.int k a) = .returned (.int k b) := by rw [h]
noncomputable def boxNat (b : Nat) (W : World) : Nat := ((W.cell? ⟨b, 0, none⟩).map fun v => (intOf v).toNat).getD 0
theorem boxNat_eq {b : Nat} {W : World} {z : Nat} {k : IntKind} (h : W.cell? ⟨b, 0, none⟩ = some (.int k z)) : boxNat b W = z := by
 unfold boxNat; rw [h]; simp [intOf]
theorem cell_of_same {A B : World} {b : Nat} (h : B.heap[b]? = A.heap[b]?) (o : Nat) : B.cell? ⟨b, o, none⟩ = A.cell? ⟨b, o, none⟩ := by
 unfold World.cell?; simp only [h]
theorem frozen_of_same {A B : World} {b : Nat} (h : B.heap[b]? = A.heap[b]?) (o : Nat) : B.frozen? ⟨b, o, none⟩ = A.frozen? ⟨b, o, none⟩ := by
 unfold World.frozen?; simp only [h]
theorem groups1_in (n l Bz z : Nat) (hz : z < 18446744073709551616) (J : List Nat → World → Prop)
 (hset : ∀ s A b v, b = Bz → J s A → J s (A.setCell ⟨b, 0, none⟩ v))
 (hY : ∀ pre x A, J pre A → (pre ++ [x]) <+: digs z → YieldAt Fence.wide (n - 1) Tryz.prog l #[.int .u8 (x : Nat)] A fun e A' =>
  e = .returned (.bool true) ∧ J (pre ++ [x]) A' ∧ ∀ k, k = Bz → A'.heap[k]? = A.heap[k]?)
 (W : World) (hb : W.cell? ⟨Bz, 0, none⟩ = some (.int .u64 (z : Nat))) (hf : W.frozen? ⟨Bz, 0, none⟩ = false) (h0 : J [] W) :
 CallsIn Fence.wide n Tryz.prog 119 #[.func (.yield l) #[] #[], .pointer (some ⟨Bz, 0, none⟩)] W fun e W' => (∃ v, e = .returned v) ∧ J (digs z) W' := by
 refine callsIn_of_wp Tryz.func119 rfl trivial ?_ rfl
 simp only [Tryz.ntmps119, List.size_toArray, List.length_cons, List.length_nil, Nat.reduceAdd, Nat.reduceSub, Array.replicate_succ, Array.replicate_zero, List.push_toArray, List.append_toArray, List.nil_append, List.cons_append]
 gi_wp2
 gi_loopw [] (fun wr => ∃ (pre : List Nat) (y : Nat), digs z = pre ++ digs y ∧ y ≤ z ∧ wr.cell? ⟨Bz, 0, none⟩ = some (.int .u64 (y : Nat)) ∧ wr.frozen? ⟨Bz, 0, none⟩ = false ∧ J pre wr)
  (fun wr => boxNat Bz wr)
 case atStart =>
  exact ⟨[], z, rfl, Nat.le_refl _, hb, hf, h0⟩
 case round =>
  obtain ⟨pre, y, hd, hle, hc, hfz, hJs⟩ := hrel
  by_cases hbig : 128 ≤ y
  · have hpre : (pre ++ [y % 128]) <+: digs z := by
     rw [hd, digs_big hbig]
     exact ⟨digs (y / 128), by simp⟩
    obtain ⟨fn, tmps, assign, body, hy, hR⟩ := hY pre (y % 128) wr hJs hpre
    have hb2 : (128 : Int) ≤ (y : Int) := by omega
    have hm2 : (y : Int) ≤ 18446744073709551615 := by omega
    rw [show ((y % 128 : Nat) : Int) = (y : Int) % 128 from by omega] at hy
    have HD := Lib.hid hd
    have HC := Lib.hid hc
    clear hd
    gi_wp2
    refine ⟨(fun h => by cases h), hR.mono ?_⟩
    rintro e W3 ⟨rfl, hJ3, hk3⟩
    have hk := hk3 _ rfl
    have hc3 : W3.cell? ⟨Bz, 0, none⟩ = some (.int .u64 (y : Nat)) := (cell_of_same hk 0).trans hc
    have hf3 : W3.frozen? ⟨Bz, 0, none⟩ = false := (frozen_of_same hk 0).trans hfz
    clear hk hk3 hc hfz hy
    gi_wp2
    go_roundw
    case rel =>
     refine ⟨pre ++ [y % 128], y / 128, ?_, by omega, ?_, ?_, hset _ _ _ _ rfl hJ3⟩
     · rw [HD.out, digs_big hbig]; simp
     · exact World.cell?_setCell_same' _ _ _ (by rw [hc3]; rfl)
     · rw [World.frozen?_setCell]; exact hf3
    case measure =>
     rw [boxNat_eq (HC.out)]
     rw [show ((y : Int) / 128) = ((y / 128 : Nat) : Int) from by omega]
     rw [boxNat_eq (z := y / 128) (World.cell?_setCell_same' _ _ _ (by rw [hc3]; rfl))]
     omega
  · have hpre : (pre ++ [y]) <+: digs z := by
     rw [hd, digs_small (by omega)]
     exact List.prefix_refl _
    obtain ⟨fn, tmps, assign, body, hy, hR⟩ := hY pre y wr hJs hpre
    have hb2 : (y : Int) < 128 := by omega
    have HD := Lib.hid hd
    clear hd
    gi_wp2
    refine ⟨(fun h => by cases h), hR.mono ?_⟩
    rintro e W3 ⟨rfl, hJ3, hk3⟩
    gi_wp2
    go_end0
    exact ⟨⟨_, rfl⟩, by rw [HD.out, digs_small (by omega)]; exact hJ3⟩
theorem groups_any (z : Nat) (w : World) :
 Calls Tryz.prog 110 #[.int .u64 (z : Nat)] w fun e w' => e = .returned (.func (.func 119) #[] #[.pointer (some ⟨w.heap.size, 0, none⟩)]) ∧ w.alloc (.cells #[.int .u64 (z : Nat)] 135) = w' := by
 go_enter Tryz.func110, Tryz.ntmps110
 go_wp2
 go_ret
 exact ⟨rfl, rfl⟩
theorem fold_any (x : Int) (h0 : -4611686018427387903 ≤ x) (h1 : x ≤ 4611686018427387903) (w : World) :
 Calls Tryz.prog 111 #[.int .i64 x] w fun e w' => e = .returned (.int .u64 ((zigzag x : Nat) : Int)) ∧ w = w' := by
 by_cases hn : x < 0
 · have hz : ((zigzag x : Nat) : Int) = -2 * x - 1 := by unfold zigzag; rw [if_neg (by omega)]; omega
   have HZ := Lib.hid hz
   clear hz
   go_enter Tryz.func111, Tryz.ntmps111
   go_wp2
   go_ret
   exact ⟨ret_int HZ.out.symm, rfl⟩
 · have hz : ((zigzag x : Nat) : Int) = 2 * x := by unfold zigzag; rw [if_pos (by omega)]; omega
   have HZ := Lib.hid hz
   clear hz
   have hn' : 0 ≤ x := by omega
   go_enter Tryz.func111, Tryz.ntmps111
   go_wp2
   go_ret
   exact ⟨ret_int HZ.out.symm, rfl⟩
end Go.Proofs.YtnpfhcnjkekhbaaGreatDoor.W1
