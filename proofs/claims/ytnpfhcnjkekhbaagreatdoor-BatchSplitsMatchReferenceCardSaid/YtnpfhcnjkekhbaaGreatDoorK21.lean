/-
  The contracts of the reference implementation's zigzag, PutInt and Sum.
-/
import Derived.Test.YtnpfhcnjkekhbaaGreatDoorProg
import Derived.Test.YtnpfhcnjkekhbaaGreatDoorK03
import Derived.Test.YtnpfhcnjkekhbaaGreatDoorK04
import Derived.Test.YtnpfhcnjkekhbaaGreatDoorK15
import Derived.Maps.AppendAt
import Derived.RangeFuncBox
import Derived.OwnWalk
import Derived.BigQuiet
import Derived.Deep.QuietTactic
import Derived.WalkKit
import Derived.WalkLawsBesides
import Derived.Outline
import Derived.Lib.Hide
import Derived.Lib.Varint
import Derived.Lib.SlBytesRow
import Derived.Shelf.Abstract
import Derived.OwnWalkIn
import Derived.TacticsInMore
import Derived.LoopNIn
import Derived.LoopIn
import Derived.RangeFuncNested
import Derived.RangeFuncBound
import Derived.RangeFuncCalls
import Derived.RangeFuncLeaves
import Derived.Shelf.LaysM
import Derived.Shelf.Strconv.Clone
set_option maxRecDepth 100000
set_option maxHeartbeats 16000000
namespace Go.Proofs.YtnpfhcnjkekhbaaGreatDoor.W1
open Go Go.Proofs Go.RowKit Go.Lib
theorem ret_r {k : IntKind} {a b : Int} (h : a = b) : Ending.returned (.int k a) = .returned (.int k b) := by rw [h]
theorem refZig_any (x : Int) (h0 : -4611686018427387903 ≤ x) (h1 : x ≤ 4611686018427387903) (w : World) :
 Calls Tryz.prog 94 #[.int .i64 x] w fun e w' => e = .returned (.int .u64 ((zigzag x : Nat) : Int)) ∧ w = w' := by
 by_cases hn : x < 0
 · have hz : ((zigzag x : Nat) : Int) = -x * 2 - 1 := by unfold zigzag; rw [if_neg (by omega)]; omega
   have HZ := Lib.hid hz
   clear hz
   go_enter Tryz.func94, Tryz.ntmps94
   go_wp2
   go_ret
   exact ⟨ret_r HZ.out.symm, rfl⟩
 · have hz : ((zigzag x : Nat) : Int) = x * 2 := by unfold zigzag; rw [if_pos (by omega)]; omega
   have HZ := Lib.hid hz
   clear hz
   have hn' : 0 ≤ x := by omega
   go_enter Tryz.func94, Tryz.ntmps94
   go_wp2
   go_ret
   exact ⟨ret_r HZ.out.symm, rfl⟩
def byteVals (l : List UInt8) : List Value := l.map fun b => Value.int .u8 ((b.toNat : Nat) : Int)
theorem byteVals_snoc (l : List UInt8) (b : UInt8) (v : Int) (h : v = ((b.toNat : Nat) : Int)) : byteVals l ++ [Value.int .u8 v] = byteVals (l ++ [b]) := by
 subst h; simp [byteVals]
theorem own_bytes {w : World} {base : Nat} {e : TypeId} {g n cap : Nat} {l : List UInt8} (h : w.ownsRow base e 1 (.slice (some ⟨g, 0, none⟩) n cap) n (byteVals l)) : Bytes w g 0 ⟨l.toArray⟩ := by
 obtain ⟨hl, h | ⟨g', cap', cur, hv, _, hb, _, _, _, ht⟩⟩ := h
 · exact absurd h.1 (by simp)
 · simp only [Value.slice.injEq, Option.some.injEq, Addr.mk.injEq, and_true, true_and] at hv
   obtain ⟨rfl, rfl⟩ := hv
   intro i hi
   have hi2 : i < l.length := by
    have h9 : (⟨l.toArray⟩ : ByteArray).size = l.length := by show l.toArray.size = _; simp
    omega
   have hln : l.length = n := by simpa [byteVals] using hl
   have e1 : (cur.toList.take (n * 1))[i]? = some (.int .u8 ((l[i].toNat : Nat) : Int)) := by
    rw [ht]; simp [byteVals, hi2]
   rw [List.getElem?_take_of_lt (by omega)] at e1
   have e2 : cur[i]? = some (.int .u8 ((l[i].toNat : Nat) : Int)) := by simpa using e1
   rw [Nat.zero_add]
   simp only [World.cell?, hb]
   exact e2
theorem own_block_ge {w : World} {base : Nat} {e : TypeId} {size : Nat} {v : Value} {n : Nat} {xs : List Value} (h : w.ownsRow base e size v n xs) : ∀ k, v.ownBlock = some k → base ≤ k := by
 intro k hk
 obtain ⟨_, ⟨rfl, _⟩ | ⟨g, cap, cur, rfl, hb, _⟩⟩ := h
 · simp [Value.ownBlock] at hk
 · simp [Value.ownBlock] at hk; omega
theorem toU8 (n : Nat) (h : n < 256) : ((n.toUInt8.toNat : Nat) : Int) = (n : Int) := by
 have : n.toUInt8.toNat = n := by
  show (UInt8.ofNat n).toNat = n
  rw [UInt8.toNat_ofNat']; exact Nat.mod_eq_of_lt h
 rw [this]
theorem refPut_yes (x : Int) (h0 : -4611686018427387903 ≤ x) (h1 : x ≤ 4611686018427387903) (w : World) :
 Calls Tryz.prog 68 #[.int .i64 x] w fun e w' => e = .returned (.tuple #[.string (encS x), .int .i64 0]) ∧ Below w.heap.size w w' := by
 obtain ⟨i0, hi, hz0, hz1, hz2⟩ := info_parts (show (Tryz.prog.info? 5).map (fun i => (i.zero, i.size, i.bytes)) = some (some (.int .u8 0), 1, 1) by kernel_rfl)
 have hz64 : zigzag x ≤ 9223372036854775806 := zigzag_le h0 h1
 have hlen := uvarint_length9 (zigzag_le h0 h1)
 have henc : encS x = ⟨(uvarint (zigzag x)).toArray⟩ := rfl
 obtain ⟨z, hz⟩ : ∃ z, zigzag x = z := ⟨_, rfl⟩
 rw [hz] at hz64 hlen henc
 obtain ⟨E, hE⟩ : ∃ E, encS x = E := ⟨_, rfl⟩
 rw [hE] at henc ⊢
 have HZ := Lib.hid hz; have HE := Lib.hid henc
 clear hz henc hE
 have hlo : ¬ x < -4611686018427387903 := by omega
 have hhi : ¬ 4611686018427387903 < x := by omega
 go_enter Tryz.func68, Tryz.ntmps68
 go_wp2_with fail
 refine (refZig_any x h0 h1 _).mono ?_
 rw [HZ.out]
 rintro e w' ⟨rfl, rfl⟩
 go_wp2_with fail
 go_loopw [4, 5] (fun zv v wr => ∃ (pre : List UInt8) (y : Nat), zv = .int .u64 (y : Nat) ∧ y ≤ z ∧ uvarint z = pre ++ uvarint y ∧ wr.ownsRow w.heap.size 5 1 v pre.length (byteVals pre) ∧ Below w.heap.size w wr) (fun zv _ _ => (RowKit.intOf zv).toNat)
 case atStart => exact ⟨[], z, rfl, Nat.le_refl _, rfl, World.ownsRow_nil _ _ _ _, Below.refl _ _⟩
 case round =>
  obtain ⟨pre, y, rfl, hyz, hpre, hown, hbr⟩ := hrel
  have hpl : pre.length + (uvarint y).length ≤ 9 := by rw [hpre] at hlen; simpa using hlen
  have hyp := uvarint_pos y
  have HP := Lib.hid hpre
  have hsz := hbr.size
  clear hpre
  by_cases hbig : 128 ≤ y
  · have hb2 : (128 : Int) ≤ (y : Int) := by omega
    have hm2 : (y : Int) ≤ 9223372036854775806 := by omega
    go_wp2_with (first | (at_builtin; refine wpList_append_own _ rfl _ _ 42 rfl w.heap.size 5 i0 (.int .u8 0) 1 1 Tryz.underlying42 hi hz0 hz1 hz2 rfl (by decide) _ _ _ rfl (hown.alloc _) ⟨wr.heap.size, 0, none⟩ 1 1 [.int .u8 ((y : Int) % 128 + 128)] rfl rfl ?c1 ?c2 ?c3 ?c4 ?c5 ?_))
    case c1 => exact cell_one_new _ _ _
    case c2 => intro u hu; simp at hu; subst hu; rfl
    case c3 => unfold maxLen; omega
    case c4 => omega
    case c5 => simp; omega
    intro v' w1 hown' hgrow _
    rw [byteVals_snoc pre (y % 128 + 128).toUInt8 _ (by rw [toU8 _ (by omega)]; omega)] at hown'
    have hb' := ((hbr.alloc hsz _).grown hgrow (by simp; omega) (own_block_ge hown))
    have hl1 : pre.length + 1 = (pre ++ [(y % 128 + 128).toUInt8]).length := by simp
    rw [hl1] at hown'
    obtain ⟨P2, hP2⟩ : ∃ P2, pre ++ [(y % 128 + 128).toUInt8] = P2 := ⟨_, rfl⟩
    rw [hP2] at hown'
    have hpre2 : uvarint z = P2 ++ uvarint (y / 128) := by rw [HP.out, uvarint_big hbig, ← hP2]; simp
    have HO := Lib.hid hown'; have HB := Lib.hid hb'; have HP2 := Lib.hid hpre2
    clear hown' hgrow hown hb' hl1 hP2 hpre2
    go_wp2
    go_roundw
    case rel => exact ⟨P2, y / 128, congrArg (Value.int .u64) (by omega), by omega, HP2.out, HO.out, HB.out⟩
    case measure => simp [RowKit.intOf]; omega
  · have hb2 : (y : Int) < 128 := by omega
    have hb3 : ¬ (128 : Int) ≤ (y : Int) := by omega
    have huy : uvarint y = [y.toUInt8] := uvarint_small (by omega)
    go_wp2_with (first | (at_builtin; refine wpList_append_own _ rfl _ _ 42 rfl w.heap.size 5 i0 (.int .u8 0) 1 1 Tryz.underlying42 hi hz0 hz1 hz2 rfl (by decide) _ _ _ rfl (hown.alloc _) ⟨wr.heap.size, 0, none⟩ 1 1 [.int .u8 (y : Int)] rfl rfl ?d1 ?d2 ?d3 ?d4 ?d5 ?_))
    case d2 => first | rfl | (intro u hu; simp at hu; subst hu; rfl)
    case d3 => unfold maxLen; omega
    case d4 => omega
    case d5 => first | omega | (simp; omega)
    intro v' w1 hown' hgrow _
    rw [byteVals_snoc pre y.toUInt8 _ (by rw [toU8 _ (by omega)])] at hown'
    have hb' := ((hbr.alloc hsz _).grown hgrow (by simp; omega) (own_block_ge hown))
    obtain ⟨g', cap', hv'⟩ := ownsRow_succ hown'
    rw [hv'] at hown' ⊢
    have hby := own_bytes hown'
    have hEq : (⟨(pre ++ [y.toUInt8]).toArray⟩ : ByteArray) = E := by rw [HE.out, HP.out, huy]
    rw [hEq] at hby
    have hEs : E.size = pre.length + 1 := by
     rw [← hEq]
     show ((pre ++ [y.toUInt8]).toArray).size = _
     simp
    have hconv := run_convert_whole (P := Tryz.prog) w1 42 5 9 Tryz.underlying42 Tryz.underlying5 Tryz.underlying9 g' 0 E hby cap'
    rw [hEs] at hconv
    have HB := Lib.hid hb'
    clear hown' hgrow hown hb' hby hEq hEs hv' huy
    go_wp2
    go_ret2
    exact ⟨rfl, HB.out⟩
end Go.Proofs.YtnpfhcnjkekhbaaGreatDoor.W1
