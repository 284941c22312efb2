/-
  Layer 9: pick twice; the reference's Cut. Layer 9: the reference's Made: an event that integers determine. Layer 9: rows of six integers; the reference's Stream. Layer 9, the program: isIn isAgent isFirst isLow isHead areNumbered areSizes areLows areEvents isKept. Layer 9, the program: an event copied into a variable of its own; areNumbered. Layer 9: the reference's Lows.
-/
import Derived.Test.YtnpfhcnjkekhbaaGreatDoorProg
import Derived.Test.YtnpfhcnjkekhbaaGreatDoorK12
import Derived.Test.YtnpfhcnjkekhbaaGreatDoorK13
import Derived.Deep.RegionHeld3
import Derived.Lib.QuietBelow
import Derived.Deep.DeepCutAuto
import Derived.Deep.QuietTactic
import Derived.Laws.Rows
import Derived.Laws.OwnMore
import Derived.OwnWalk
import Derived.WalkKit
import Derived.WalkLawsBesides
import Derived.Outline
import Derived.Lib.Hide
import Derived.Below
import Derived.BigQuiet
import Derived.Lib.Varint
import Derived.StillTail
import Derived.Maps.Own
import Derived.Maps.OwnOps
set_option maxRecDepth 100000
set_option maxHeartbeats 16000000
namespace Go.Proofs.YtnpfhcnjkekhbaaGreatDoor
open Go Go.Proofs Go.RowKit Go.Lib
theorem pickR9_any (c n : Int) (h0 : -9223372036854775808 ≤ c) (h1 : c ≤ 9223372036854775807) (hn : 1 ≤ n) (hn2 : n ≤ 9223372036854775807) (w : World) :
 Calls Tryz.prog 42 #[.int .i64 c, .int .i64 n] w fun e w' => e = .returned (.int .i64 (pick8 c n)) ∧ w = w' := by
 have hz : (n == 0) = false := by rw [beq_eq_false_iff_ne]; omega
 by_cases hc : c < 0
 · have hp : pick8 c n = (-(c + 1)) % n := by unfold pick8; rw [if_pos hc]
   have HP := Lib.hid hp
   clear hp
   go_enter Tryz.func42, Tryz.ntmps42
   go_wp2
   go_ret
   exact ⟨ret_b8 (a := -((c + 1).tmod n)) (by rw [HP.out, ← Int.neg_tmod]; exact Int.tmod_eq_emod_of_nonneg (by omega)), rfl⟩
 · have hp : pick8 c n = c % n := by unfold pick8; rw [if_neg hc]
   have HP := Lib.hid hp
   have hc' : 0 ≤ c := by omega
   clear hp hc
   go_enter Tryz.func42, Tryz.ntmps42
   go_wp2
   go_ret
   exact ⟨ret_b8 HP.out.symm, rfl⟩
theorem pickL9_any (c n : Int) (h0 : -9223372036854775808 ≤ c) (h1 : c ≤ 9223372036854775807) (hn : 1 ≤ n) (hn2 : n ≤ 9223372036854775807) (w : World) :
 Calls Tryz.prog 21 #[.int .i64 c, .int .i64 n] w fun e w' => e = .returned (.int .i64 (pick8 c n)) ∧ w = w' := by
 have hz : (n == 0) = false := by rw [beq_eq_false_iff_ne]; omega
 by_cases hc : c < 0
 · have hp : pick8 c n = (-(c + 1)) % n := by unfold pick8; rw [if_pos hc]
   have HP := Lib.hid hp
   clear hp
   go_enter Tryz.func21, Tryz.ntmps21
   go_wp2
   go_ret
   exact ⟨ret_b8 (a := -((c + 1).tmod n)) (by rw [HP.out, ← Int.neg_tmod]; exact Int.tmod_eq_emod_of_nonneg (by omega)), rfl⟩
 · have hp : pick8 c n = c % n := by unfold pick8; rw [if_neg hc]
   have HP := Lib.hid hp
   have hc' : 0 ≤ c := by omega
   clear hp hc
   go_enter Tryz.func21, Tryz.ntmps21
   go_wp2
   go_ret
   exact ⟨ret_b8 HP.out.symm, rfl⟩
def IsPost (w : World) (l : List Int) (e : Ending) (w' : World) : Prop := ∃ ad c, e = .returned (.slice ad l.length c) ∧ l.length ≤ c ∧ (ad = none → c = 0) ∧ RN KI w' w.heap.size ad l ∧ Below w.heap.size w w'
theorem Own.is9 {w W : World} {n c : Nat} {ad : Option Addr} {l : List Int} (hb : Below w.heap.size w W) (h : Own KI W w.heap.size (.slice ad n c) l) : IsPost w l (.returned (.slice ad n c)) W := by
 obtain ⟨ad2, c2, e, hc, hr⟩ := h.rn
 injection e with e1 e2 e3
 subst e1 e2 e3
 refine ⟨ad, c, rfl, hc, fun hn => ?_, hr, hb⟩
 subst hn
 rcases h.2 with ⟨hv, _⟩ | ⟨g, cap, cur, hv, _⟩
 · injection hv
 · injection hv with e1; cases e1
theorem cutR9_any (n : Int) (ad : Option Addr) (c : Nat) (l : List Int) (h0 : 0 ≤ n) (h1 : n ≤ 24) (hl : l.length ≤ maxLen) (hb : ∀ i (h : i < l.length), -9223372036854775808 ≤ l[i] ∧ l[i] ≤ 9223372036854775807) (w : World) (hI : RL KI w ad l) :
 Calls Tryz.prog 28 #[.int .i64 n, .slice ad l.length c] w (IsPost w (cutL n l)) := by
 unfold maxLen at hl
 have HC := Lib.hid (fun k hk => hI.int k hk)
 have HBI := Lib.hid hb
 have HCB := Lib.hid (fun k => cutR_bd h0 l k)
 have HC1 := Lib.hid (fun k => cut1_bd h0 l k)
 have HN12 := Lib.hid (cutN_le l)
 have HNL := Lib.hid (show cutN l = if l.length < 12 then l.length else 12 from rfl)
 clear hI hb
 go_enter Tryz.func28, Tryz.ntmps28
 go_wp2_with fail
 go_loopw [0, 5, 6] (fun m v i wr => ∃ k : Nat, i = .int .i64 k ∧ k ≤ cutN l ∧ m = .int .i64 (cutR n l k) ∧ ∃ yad yc, v = .slice yad k yc ∧ Hid (Own KI wr w.heap.size (.slice yad k yc) (cutP n l k)) ∧ Hid (Below w.heap.size w wr)) (fun _ _ i _ => 12 - (RowKit.intOf i).toNat)
 case atStart => exact ⟨0, rfl, Nat.zero_le _, rfl, none, 0, rfl, Lib.hid (Own.nil _ _ _), Lib.hid (Below.refl _ _)⟩
 case round =>
  obtain ⟨k, rfl, hk, rfl, yad, yc, rfl, HO, HB⟩ := hrel
  have hcn := HNL.out
  have hn12 := HN12.out
  by_cases hlk : k < cutN l
  · have hk12 : k < 12 := by omega
    have hkl : k < l.length := by split at hcn <;> omega
    have hkk : (k : Int) < (l.length : Int) := by omega
    have hkk2 : (k : Int) < 12 := by omega
    obtain ⟨xb, xo, rfl, _, hxc⟩ := HC.out k hkl
    have y0 := hxc w (Below.refl _ _)
    have y0 := hxc wr HB.out
    have ixx := fun W => at_int8 xb xo l.length c k hkl W
    have hbi := HBI.out k hkl
    have HST := Lib.hid (cutP_step n l k)
    have HSR := Lib.hid (cutR_step n l k)
    have hcb := HCB.out k
    have hc1 := HC1.out k
    have hdef : cut1 n l k = min (cutR n l k) (pick8 (l[k]'hkl) 5) := by unfold cut1; rw [List.getD_eq_getElem?_getD, List.getElem?_eq_getElem hkl]; rfl
    generalize l[k]'hkl = xk at *
    have HPK := Lib.hid (fun W => pickR9_any xk 5 hbi.1 hbi.2 (by decide) (by decide) W)
    have p0 := pick8_lo (c := xk) (n := 5) (by decide)
    have p1 := pick8_hi (c := xk) (n := 5) (by decide)
    generalize pick8 xk 5 = PK at *
    have HLT := Lib.hid hlk
    obtain ⟨SZ, hSZ⟩ : ∃ SZ, SZ = cut1 n l k := ⟨_, rfl⟩
    obtain ⟨RK, hRK⟩ : ∃ RK, RK = cutR n l k := ⟨_, rfl⟩
    rw [← hRK] at hcb hc1 hdef HSR ⊢
    rw [← hSZ] at hc1 hdef HST HSR
    have HLN := Lib.hid (show (cutP n l k).length + 1 ≤ 100000000 from by rw [cutP_len]; omega)
    have HPL := Lib.hid (cutP_len n l k)
    generalize cutP n l k = LP at *
    clear hSZ hRK hxc hkl hcn
    obtain ⟨wB, VB, ZB, KB, BB⟩ := lay8 wr [.int .i64 SZ] 3
    have VB := (show wr.alloc (.cells #[.int .i64 SZ] 3) = wB from VB)
    have KB := Lib.hid (show CellsAt wB wr.heap.size (KI.cs SZ) from KB)
    have BB := Lib.hid BB
    have hz5 : w.heap.size ≤ wr.heap.size := HB.out.size
    have hws : IntKind.i64.wrap (RK - SZ) = RK - SZ := wrapq8 (by omega)
    rcases Int.lt_or_le PK RK with hle | hle
    · have hs : SZ = PK := by omega
      have hi1 : ¬ RK ≤ PK := by omega
      subst hs
      clear hdef
      go_wp2_with (first | (go_at_call 42; refine (HPK.out _).mono ?_; rintro e z ⟨rfl, rfl⟩) | (at_builtin; refine walk_push8 KI (w0 := wB) rfl _ _ rfl w.heap.size (.slice yad k yc) LP SZ rfl (HO.out.below BB.out (Nat.le_refl _)) (Below.refl _ _) (by omega) _ 1 rfl KB.out HLN.out ?_; intro v9 w9 ho9 hb9 hg9 hk9))
      have HB9 := Lib.hid (show Below w.heap.size w w9 from (HB.out.trans (BB.out.mono hz5)).trans hb9)
      obtain ⟨yad9, yc9, e9, _⟩ := ho9.form
      have hl9 : (LP ++ [SZ]).length = k + 1 := by rw [List.length_append, HPL.out]; rfl
      rw [hl9] at e9
      subst e9
      have HO9 := Lib.hid ho9
      clear ho9 hb9 hg9 hk9 VB
      go_roundw
      case rel => exact ⟨k + 1, by go_num, HLT.out, by rw [HSR.out], yad9, yc9, rfl, Lib.hid (by rw [HST.out]; exact HO9.out), HB9⟩
      case measure => have h9 := HLT.out; simp [RowKit.intOf]; omega
    · have hs : SZ = RK := by omega
      have hi1 : RK ≤ PK := by omega
      subst hs
      clear hdef
      go_wp2_with (first | (go_at_call 42; refine (HPK.out _).mono ?_; rintro e z ⟨rfl, rfl⟩) | (at_builtin; refine walk_push8 KI (w0 := wB) rfl _ _ rfl w.heap.size (.slice yad k yc) LP SZ rfl (HO.out.below BB.out (Nat.le_refl _)) (Below.refl _ _) (by omega) _ 1 rfl KB.out HLN.out ?_; intro v9 w9 ho9 hb9 hg9 hk9))
      have HB9 := Lib.hid (show Below w.heap.size w w9 from (HB.out.trans (BB.out.mono hz5)).trans hb9)
      obtain ⟨yad9, yc9, e9, _⟩ := ho9.form
      have hl9 : (LP ++ [SZ]).length = k + 1 := by rw [List.length_append, HPL.out]; rfl
      rw [hl9] at e9
      subst e9
      have HO9 := Lib.hid ho9
      clear ho9 hb9 hg9 hk9 VB
      go_roundw
      case rel => exact ⟨k + 1, by go_num, HLT.out, by rw [HSR.out, Int.sub_self], yad9, yc9, rfl, Lib.hid (by rw [HST.out]; exact HO9.out), HB9⟩
      case measure => have h9 := HLT.out; simp [RowKit.intOf]; omega
  · have hke : k = cutN l := by omega
    have hout : ¬ ((k : Int) < (l.length : Int)) ∨ ((k : Int) < (l.length : Int) ∧ ¬ (k : Int) < 12) := by
     split at hcn <;> omega
    have HFIN := Lib.hid (show cutL n l = cutP n l k ++ if 0 < cutR n l k then [cutR n l k] else [] from by unfold cutL; rw [← hke])
    have hcb := HCB.out k
    have HPL := Lib.hid (cutP_len n l k)
    have hk12 : k ≤ 12 := by omega
    obtain ⟨RK, hRK⟩ : ∃ RK, RK = cutR n l k := ⟨_, rfl⟩
    rw [← hRK] at hcb HFIN ⊢
    generalize cutP n l k = LP at *
    clear hRK hke hlk hcn
    generalize wr = wx at *
    rcases hout with hout | ⟨hout1, hout2⟩
    · skip
      go_wp2_with fail
      go_loopw [0, 5] (fun m v wq => ∃ (r : Int) (L : List Int) (zad : Option Addr) (zc : Nat), m = .int .i64 r ∧ v = .slice zad L.length zc ∧ (0 ≤ r ∧ r ≤ 24 ∧ L.length ≤ 13 ∧ (0 < r → L.length ≤ 12)) ∧ Hid (L ++ (if 0 < r then [r] else []) = cutL n l) ∧ Hid (Own KI wq w.heap.size (.slice zad L.length zc) L) ∧ Hid (Below w.heap.size w wq)) (fun m _ _ => (RowKit.intOf m).toNat)
      case atStart => exact ⟨RK, LP, yad, yc, rfl, by rw [HPL.out], ⟨hcb.1, by omega, by rw [HPL.out]; omega, fun _ => by rw [HPL.out]; omega⟩, Lib.hid HFIN.out.symm, Lib.hid (by rw [HPL.out]; exact HO.out), HB⟩
      case round =>
       obtain ⟨r, L, zad, zc, rfl, rfl, ⟨g0, g1, g2, g3⟩, HE, HO2, HB2⟩ := hrel
       by_cases hr : 0 < r
       · have hr24 : r ≤ 24 := g1
         have hl12 := g3 hr
         have hz5 : w.heap.size ≤ wr.heap.size := HB2.out.size
         obtain ⟨wB, VB, ZB, KB, BB⟩ := lay8 wr [.int .i64 r] 3
         have VB := (show wr.alloc (.cells #[.int .i64 r] 3) = wB from VB)
         have KB := Lib.hid (show CellsAt wB wr.heap.size (KI.cs r) from KB)
         have BB := Lib.hid BB
         have HLN := Lib.hid (show L.length + 1 ≤ 100000000 from by omega)
         have HE2 := Lib.hid (show (L ++ [r]) ++ [] = cutL n l from by rw [← HE.out, if_pos hr, List.append_nil])
         have HL12 := Lib.hid hl12
         clear g0 g1 g2 g3 hl12
         go_wp2_with (first | (at_builtin; refine walk_push8 KI (w0 := wB) rfl _ _ rfl w.heap.size (.slice zad L.length zc) L r rfl (HO2.out.below BB.out (Nat.le_refl _)) (Below.refl _ _) (by omega) _ 1 rfl KB.out HLN.out ?_; intro v9 w9 ho9 hb9 hg9 hk9))
         have HB9 := Lib.hid (show Below w.heap.size w w9 from (HB2.out.trans (BB.out.mono hz5)).trans hb9)
         obtain ⟨yad9, yc9, e9, _⟩ := ho9.form
         subst e9
         have HO9 := Lib.hid ho9
         have HR0 := Lib.hid hr
         clear ho9 hb9 hg9 hk9 VB hr
         go_roundw
         case rel => exact ⟨0, L ++ [r], yad9, yc9, by first | rfl | rw [Int.sub_self], rfl, ⟨by omega, by omega, by have := HL12.out; rw [List.length_append]; show L.length + 1 ≤ 13; omega, fun h => by omega⟩, HE2, HO9, HB9⟩
         case measure => have h9 := HR0.out; simp [RowKit.intOf]; omega
       · have HF := Lib.hid (show IsPost w (cutL n l) (.returned (.slice zad L.length zc)) wr from by
          have e := HE.out
          rw [if_neg hr, List.append_nil] at e
          rw [← e]
          exact Own.is9 HB2.out HO2.out)
         clear g3
         go_wp2_with fail
         go_ret
         exact HF.out
    · skip
      go_wp2_with fail
      go_loopw [0, 5] (fun m v wq => ∃ (r : Int) (L : List Int) (zad : Option Addr) (zc : Nat), m = .int .i64 r ∧ v = .slice zad L.length zc ∧ (0 ≤ r ∧ r ≤ 24 ∧ L.length ≤ 13 ∧ (0 < r → L.length ≤ 12)) ∧ Hid (L ++ (if 0 < r then [r] else []) = cutL n l) ∧ Hid (Own KI wq w.heap.size (.slice zad L.length zc) L) ∧ Hid (Below w.heap.size w wq)) (fun m _ _ => (RowKit.intOf m).toNat)
      case atStart => exact ⟨RK, LP, yad, yc, rfl, by rw [HPL.out], ⟨hcb.1, by omega, by rw [HPL.out]; omega, fun _ => by rw [HPL.out]; omega⟩, Lib.hid HFIN.out.symm, Lib.hid (by rw [HPL.out]; exact HO.out), HB⟩
      case round =>
       obtain ⟨r, L, zad, zc, rfl, rfl, ⟨g0, g1, g2, g3⟩, HE, HO2, HB2⟩ := hrel
       by_cases hr : 0 < r
       · have hr24 : r ≤ 24 := g1
         have hl12 := g3 hr
         have hz5 : w.heap.size ≤ wr.heap.size := HB2.out.size
         obtain ⟨wB, VB, ZB, KB, BB⟩ := lay8 wr [.int .i64 r] 3
         have VB := (show wr.alloc (.cells #[.int .i64 r] 3) = wB from VB)
         have KB := Lib.hid (show CellsAt wB wr.heap.size (KI.cs r) from KB)
         have BB := Lib.hid BB
         have HLN := Lib.hid (show L.length + 1 ≤ 100000000 from by omega)
         have HE2 := Lib.hid (show (L ++ [r]) ++ [] = cutL n l from by rw [← HE.out, if_pos hr, List.append_nil])
         have HL12 := Lib.hid hl12
         clear g0 g1 g2 g3 hl12
         go_wp2_with (first | (at_builtin; refine walk_push8 KI (w0 := wB) rfl _ _ rfl w.heap.size (.slice zad L.length zc) L r rfl (HO2.out.below BB.out (Nat.le_refl _)) (Below.refl _ _) (by omega) _ 1 rfl KB.out HLN.out ?_; intro v9 w9 ho9 hb9 hg9 hk9))
         have HB9 := Lib.hid (show Below w.heap.size w w9 from (HB2.out.trans (BB.out.mono hz5)).trans hb9)
         obtain ⟨yad9, yc9, e9, _⟩ := ho9.form
         subst e9
         have HO9 := Lib.hid ho9
         have HR0 := Lib.hid hr
         clear ho9 hb9 hg9 hk9 VB hr
         go_roundw
         case rel => exact ⟨0, L ++ [r], yad9, yc9, by first | rfl | rw [Int.sub_self], rfl, ⟨by omega, by omega, by have := HL12.out; rw [List.length_append]; show L.length + 1 ≤ 13; omega, fun h => by omega⟩, HE2, HO9, HB9⟩
         case measure => have h9 := HR0.out; simp [RowKit.intOf]; omega
       · have HF := Lib.hid (show IsPost w (cutL n l) (.returned (.slice zad L.length zc)) wr from by
          have e := HE.out
          rw [if_neg hr, List.append_nil] at e
          rw [← e]
          exact Own.is9 HB2.out HO2.out)
         clear g3
         go_wp2_with fail
         go_ret
         exact HF.out
end Go.Proofs.YtnpfhcnjkekhbaaGreatDoor

namespace Go.Proofs.YtnpfhcnjkekhbaaGreatDoor
open Go Go.Proofs Go.RowKit Go.Lib Go.Sort
def S6.fit (x : S6) : Prop := (-9223372036854775808 ≤ x.a ∧ x.a ≤ 9223372036854775807) ∧ (-9223372036854775808 ≤ x.b ∧ x.b ≤ 9223372036854775807) ∧ (-9223372036854775808 ≤ x.c ∧ x.c ≤ 9223372036854775807) ∧ (-9223372036854775808 ≤ x.d ∧ x.d ≤ 9223372036854775807) ∧ (-9223372036854775808 ≤ x.e ∧ x.e ≤ 9223372036854775807) ∧ (-9223372036854775808 ≤ x.f ∧ x.f ≤ 9223372036854775807)
theorem madeR9_any (ag sq tm : Int) (x : S6) (hx : x.fit) (w : World) :
 Calls Tryz.prog 37 #[.int .i64 ag, .int .i64 sq, .int .i64 tm, .agg #[.int .i64 x.a, .int .i64 x.b, .int .i64 x.c, .int .i64 x.d, .int .i64 x.e, .int .i64 x.f]] w fun e w' => e = .returned (mdE ag sq tm x).val ∧ Below w.heap.size w w' := by
 obtain ⟨⟨a0, a1⟩, ⟨b0, b1⟩, ⟨c0, c1⟩, ⟨d0, d1⟩, ⟨e0, e1⟩, ⟨f0, f1⟩⟩ := hx
 have HPA := Lib.hid (fun W => pickR9_any x.a 7 a0 a1 (by decide) (by decide) W)
 have HPB := Lib.hid (fun W => pickR9_any x.b 6 b0 b1 (by decide) (by decide) W)
 have HPC := Lib.hid (fun W => pickR9_any x.c 10 c0 c1 (by decide) (by decide) W)
 have HPF := Lib.hid (fun W => pickR9_any x.f 100 f0 f1 (by decide) (by decide) W)
 have HPF5 := Lib.hid (fun W => pickR9_any x.f 5 f0 f1 (by decide) (by decide) W)
 have HPD9 := Lib.hid (fun W => pickR9_any x.d 9 d0 d1 (by decide) (by decide) W)
 have HPD3 := Lib.hid (fun W => pickR9_any x.d 3 d0 d1 (by decide) (by decide) W)
 have HPD8 := Lib.hid (fun W => pickR9_any x.d 8 d0 d1 (by decide) (by decide) W)
 have HPD10 := Lib.hid (fun W => pickR9_any x.d 10 d0 d1 (by decide) (by decide) W)
 have HPE4 := Lib.hid (fun W => pickR9_any x.e 4 e0 e1 (by decide) (by decide) W)
 have HPE3 := Lib.hid (fun W => pickR9_any x.e 3 e0 e1 (by decide) (by decide) W)
 have te := tdiv8 e0 e1 4 (by decide)
 have HPE5 := Lib.hid (fun W => pickR9_any (x.e.tdiv 4) 3 (by omega) (by omega) (by decide) (by decide) W)
 have pa0 := pick8_lo (c := x.a) (n := 7) (by decide); have pa1 := pick8_hi (c := x.a) (n := 7) (by decide)
 have pc0 := pick8_lo (c := x.c) (n := 10) (by decide); have pc1 := pick8_hi (c := x.c) (n := 10) (by decide)
 have pd0 := pick8_lo (c := x.d) (n := 9) (by decide); have pd1 := pick8_hi (c := x.d) (n := 9) (by decide)
 have pf0 := pick8_lo (c := x.f) (n := 5) (by decide); have pf1 := pick8_hi (c := x.f) (n := 5) (by decide)
 obtain ⟨ME, hME⟩ : ∃ ME, ME = mdE ag sq tm x := ⟨_, rfl⟩
 rw [← hME]
 unfold mdE at hME
 have HME := Lib.hid hME
 clear hME
 obtain ⟨xa, xb, xc, xd, xe, xf⟩ := x
 dsimp only at *
 generalize pick8 xa 7 = PA at *
 generalize pick8 xb 6 = PB at *
 generalize pick8 xc 10 = PC at *
 generalize pick8 xf 100 = PF at *
 generalize pick8 xf 5 = PF5 at *
 generalize pick8 xd 9 = PD9 at *
 generalize pick8 xd 3 = PD3 at *
 generalize pick8 xd 8 = PD8 at *
 generalize pick8 xd 10 = PD10 at *
 generalize pick8 xe 4 = PE4 at *
 generalize pick8 xe 3 = PE3 at *
 generalize pick8 (xe.tdiv 4) 3 = PE5 at *
 clear a0 a1 b0 b1 c0 c1 d0 d1 f0 f1
 obtain ⟨w1, V1, Z1, K1, B1⟩ := lay8 w [.int .i64 xa, .int .i64 xb, .int .i64 xc, .int .i64 xd, .int .i64 xe, .int .i64 xf] 61
 have V1 := (show w.alloc (.cells #[.int .i64 xa, .int .i64 xb, .int .i64 xc, .int .i64 xd, .int .i64 xe, .int .i64 xf] 61) = w1 from V1)
 obtain ⟨w2, V2, Z2, K2, B2⟩ := lay8 w1 [.int .i64 0, .int .i64 0, .int .i64 0, .int .i64 0, .int .i64 0, .int .i64 0, .int .i64 0, .int .i64 0, .int .i64 0, .int .i64 0, .int .i64 0, .int .i64 0] 23
 have V2 := (show w1.alloc (.cells #[.int .i64 0, .int .i64 0, .int .i64 0, .int .i64 0, .int .i64 0, .int .i64 0, .int .i64 0, .int .i64 0, .int .i64 0, .int .i64 0, .int .i64 0, .int .i64 0] 23) = w2 from V2)
 rw [Z1] at Z2 K2
 have HX2 := Lib.hid (K1.below B2)
 have HR2 := Lib.hid K2
 have HB2 := Lib.hid (below_up8 B1 B2)
 have hz2 : w2.heap.size = w.heap.size + 2 := by omega
 clear K1 B1 K2 B2 Z2
 go_enter Tryz.func37, Tryz.ntmps37
 go_upto_region 1 with fail
 clear V1 V2
 go_cut [9] from 10 to 26 (fun s9 wx => ∃ E, s9 = .pointer (some ⟨E, 0, none⟩) ∧ Hid (CellsAt wx E [.int .i64 ag, .int .i64 sq, .int .i64 tm, .int .i64 (1 + PA), .int .i64 PB, .int .i64 PC, .int .i64 0, .int .i64 0, .int .i64 0, .int .i64 0, .int .i64 0, .int .i64 PF] ∧ w2.heap.size ≤ E) ∧ Hid (Below w2.heap.size w2 wx))
 case first =>
  skip
  refine wp_region_noPanic ?_
  refine wp_region_Kx (C := Grew w2) [18] 18 #[false, false, false, false, false, false, false, false, false, false, false, false, false, false, false, false, false, false, false] (by kernel_rfl) (by kernel_rfl) (by kernel_rfl) (grew0 _) ?_
  intro wx hwx
  refine wpAnyK_ex (i := 0) rfl (by kernel_rfl) (listed' := #[true, false, false, false, false, false, false, false, false, false, false, false, false, false, false, false, false, false, false]) rfl (fun _ _ _ _ _ h => h) hwx ?_
  apply Exists.intro
  refine ⟨⟨by kernel_rfl, fun wy hw => ?_⟩, ?_⟩
  · (have bw := hw.below; have x0 := (show wy.cell? ⟨w.heap.size, 0, none⟩ = some (.int .i64 xa) from (HX2.out.below bw 0 (by simp)).1); have x1 := (show wy.cell? ⟨w.heap.size, 1, none⟩ = some (.int .i64 xb) from (HX2.out.below bw 1 (by simp)).1); have x2 := (show wy.cell? ⟨w.heap.size, 2, none⟩ = some (.int .i64 xc) from (HX2.out.below bw 2 (by simp)).1); have x5 := (show wy.cell? ⟨w.heap.size, 5, none⟩ = some (.int .i64 xf) from (HX2.out.below bw 5 (by simp)).1); go_simp; try (first | (with_reducible rfl) | (with_reducible exact ⟨rfl, rfl⟩)))
  try simp only [Act.put, List.getElem_toArray, List.getElem_cons_zero, List.setIfInBounds_toArray, List.set_cons_succ, List.set_cons_zero]
  refine wpAnyK_ex (i := 1) rfl (by kernel_rfl) (listed' := #[true, true, false, false, false, false, false, false, false, false, false, false, false, false, false, false, false, false, false]) rfl (fun _ _ _ _ _ h => h) hwx ?_
  apply Exists.intro
  refine ⟨⟨by kernel_rfl, fun wy hw => ?_⟩, ?_⟩
  · (have bw := hw.below; have x0 := (show wy.cell? ⟨w.heap.size, 0, none⟩ = some (.int .i64 xa) from (HX2.out.below bw 0 (by simp)).1); have x1 := (show wy.cell? ⟨w.heap.size, 1, none⟩ = some (.int .i64 xb) from (HX2.out.below bw 1 (by simp)).1); have x2 := (show wy.cell? ⟨w.heap.size, 2, none⟩ = some (.int .i64 xc) from (HX2.out.below bw 2 (by simp)).1); have x5 := (show wy.cell? ⟨w.heap.size, 5, none⟩ = some (.int .i64 xf) from (HX2.out.below bw 5 (by simp)).1); go_simp; try (first | (with_reducible rfl) | (with_reducible exact ⟨rfl, rfl⟩)))
  try simp only [Act.put, List.getElem_toArray, List.getElem_cons_succ, List.getElem_cons_zero, List.setIfInBounds_toArray, List.set_cons_succ, List.set_cons_zero]
  refine wpAnyK_ex (i := 2) rfl (by kernel_rfl) (listed' := #[true, true, true, false, false, false, false, false, false, false, false, false, false, false, false, false, false, false, false]) rfl (fun _ _ _ _ _ h => h) hwx ?_
  apply Exists.intro
  refine ⟨⟨by kernel_rfl, fun wy hw => ?_⟩, ?_⟩
  · (have bw := hw.below; have x0 := (show wy.cell? ⟨w.heap.size, 0, none⟩ = some (.int .i64 xa) from (HX2.out.below bw 0 (by simp)).1); have x1 := (show wy.cell? ⟨w.heap.size, 1, none⟩ = some (.int .i64 xb) from (HX2.out.below bw 1 (by simp)).1); have x2 := (show wy.cell? ⟨w.heap.size, 2, none⟩ = some (.int .i64 xc) from (HX2.out.below bw 2 (by simp)).1); have x5 := (show wy.cell? ⟨w.heap.size, 5, none⟩ = some (.int .i64 xf) from (HX2.out.below bw 5 (by simp)).1); go_simp; try (first | (with_reducible rfl) | (with_reducible exact ⟨rfl, rfl⟩)))
  try simp only [Act.put, List.getElem_toArray, List.getElem_cons_succ, List.getElem_cons_zero, List.setIfInBounds_toArray, List.set_cons_succ, List.set_cons_zero]
  refine wpAnyK_ex (i := 3) rfl (by kernel_rfl) (listed' := #[true, true, true, true, false, false, false, false, false, false, false, false, false, false, false, false, false, false, false]) rfl (fun _ _ _ _ _ h => h) hwx ?_
  apply Exists.intro
  refine ⟨⟨by kernel_rfl, fun wy hw => ?_⟩, ?_⟩
  · (have bw := hw.below; have x0 := (show wy.cell? ⟨w.heap.size, 0, none⟩ = some (.int .i64 xa) from (HX2.out.below bw 0 (by simp)).1); have x1 := (show wy.cell? ⟨w.heap.size, 1, none⟩ = some (.int .i64 xb) from (HX2.out.below bw 1 (by simp)).1); have x2 := (show wy.cell? ⟨w.heap.size, 2, none⟩ = some (.int .i64 xc) from (HX2.out.below bw 2 (by simp)).1); have x5 := (show wy.cell? ⟨w.heap.size, 5, none⟩ = some (.int .i64 xf) from (HX2.out.below bw 5 (by simp)).1); go_simp; try (first | (with_reducible rfl) | (with_reducible exact ⟨rfl, rfl⟩)))
  try simp only [Act.put, List.getElem_toArray, List.getElem_cons_succ, List.getElem_cons_zero, List.setIfInBounds_toArray, List.set_cons_succ, List.set_cons_zero]
  refine wpAnyK_ex (i := 4) rfl (by kernel_rfl) (listed' := #[true, true, true, true, true, false, false, false, false, false, false, false, false, false, false, false, false, false, false]) rfl (fun _ _ _ _ _ h => h) hwx ?_
  apply Exists.intro
  refine ⟨⟨by kernel_rfl, fun wy hw => ?_⟩, ?_⟩
  · (have bw := hw.below; have x0 := (show wy.cell? ⟨w.heap.size, 0, none⟩ = some (.int .i64 xa) from (HX2.out.below bw 0 (by simp)).1); have x1 := (show wy.cell? ⟨w.heap.size, 1, none⟩ = some (.int .i64 xb) from (HX2.out.below bw 1 (by simp)).1); have x2 := (show wy.cell? ⟨w.heap.size, 2, none⟩ = some (.int .i64 xc) from (HX2.out.below bw 2 (by simp)).1); have x5 := (show wy.cell? ⟨w.heap.size, 5, none⟩ = some (.int .i64 xf) from (HX2.out.below bw 5 (by simp)).1); go_simp; try (first | (with_reducible rfl) | (with_reducible exact ⟨rfl, rfl⟩)))
  try simp only [Act.put, List.getElem_toArray, List.getElem_cons_succ, List.getElem_cons_zero, List.setIfInBounds_toArray, List.set_cons_succ, List.set_cons_zero]
  refine wpAnyK_callx (i := 5) rfl (by kernel_rfl) (listed' := #[true, true, true, true, true, true, false, false, false, false, false, false, false, false, false, false, false, false, false]) rfl (fun _ _ _ _ _ h => h) hwx ?_
  apply Exists.intro
  apply Exists.intro
  apply Exists.intro
  refine ⟨⟨by kernel_rfl, fun wy hw => ?_, fun wy hw => ?_⟩, ?_⟩
  · (have bw := hw.below; have x0 := (show wy.cell? ⟨w.heap.size, 0, none⟩ = some (.int .i64 xa) from (HX2.out.below bw 0 (by simp)).1); have x1 := (show wy.cell? ⟨w.heap.size, 1, none⟩ = some (.int .i64 xb) from (HX2.out.below bw 1 (by simp)).1); have x2 := (show wy.cell? ⟨w.heap.size, 2, none⟩ = some (.int .i64 xc) from (HX2.out.below bw 2 (by simp)).1); have x5 := (show wy.cell? ⟨w.heap.size, 5, none⟩ = some (.int .i64 xf) from (HX2.out.below bw 5 (by simp)).1); go_simp; try (first | (with_reducible rfl) | (with_reducible exact ⟨rfl, rfl⟩)))
  · (exact (HPA.out wy).mono (fun e w2 h => ⟨h.1, h.2.symm⟩))
  try simp only [Act.put, List.getElem_toArray, List.getElem_cons_succ, List.getElem_cons_zero, List.setIfInBounds_toArray, List.set_cons_succ, List.set_cons_zero]
  refine wpAnyK_ex (i := 6) rfl (by kernel_rfl) (listed' := #[true, true, true, true, true, true, true, false, false, false, false, false, false, false, false, false, false, false, false]) rfl (fun _ _ _ _ _ h => h) hwx ?_
  apply Exists.intro
  refine ⟨⟨by kernel_rfl, fun wy hw => ?_⟩, ?_⟩
  · (have bw := hw.below; have x0 := (show wy.cell? ⟨w.heap.size, 0, none⟩ = some (.int .i64 xa) from (HX2.out.below bw 0 (by simp)).1); have x1 := (show wy.cell? ⟨w.heap.size, 1, none⟩ = some (.int .i64 xb) from (HX2.out.below bw 1 (by simp)).1); have x2 := (show wy.cell? ⟨w.heap.size, 2, none⟩ = some (.int .i64 xc) from (HX2.out.below bw 2 (by simp)).1); have x5 := (show wy.cell? ⟨w.heap.size, 5, none⟩ = some (.int .i64 xf) from (HX2.out.below bw 5 (by simp)).1); go_simp; try (first | (with_reducible rfl) | (with_reducible exact ⟨rfl, rfl⟩)))
  try simp only [Act.put, List.getElem_toArray, List.getElem_cons_succ, List.getElem_cons_zero, List.setIfInBounds_toArray, List.set_cons_succ, List.set_cons_zero]
  refine wpAnyK_ex (i := 7) rfl (by kernel_rfl) (listed' := #[true, true, true, true, true, true, true, true, false, false, false, false, false, false, false, false, false, false, false]) rfl (fun _ _ _ _ _ h => h) hwx ?_
  apply Exists.intro
  refine ⟨⟨by kernel_rfl, fun wy hw => ?_⟩, ?_⟩
  · (have bw := hw.below; have x0 := (show wy.cell? ⟨w.heap.size, 0, none⟩ = some (.int .i64 xa) from (HX2.out.below bw 0 (by simp)).1); have x1 := (show wy.cell? ⟨w.heap.size, 1, none⟩ = some (.int .i64 xb) from (HX2.out.below bw 1 (by simp)).1); have x2 := (show wy.cell? ⟨w.heap.size, 2, none⟩ = some (.int .i64 xc) from (HX2.out.below bw 2 (by simp)).1); have x5 := (show wy.cell? ⟨w.heap.size, 5, none⟩ = some (.int .i64 xf) from (HX2.out.below bw 5 (by simp)).1); go_simp; try (first | (with_reducible rfl) | (with_reducible exact ⟨rfl, rfl⟩)))
  try simp only [Act.put, List.getElem_toArray, List.getElem_cons_succ, List.getElem_cons_zero, List.setIfInBounds_toArray, List.set_cons_succ, List.set_cons_zero]
  refine wpAnyK_ex (i := 8) rfl (by kernel_rfl) (listed' := #[true, true, true, true, true, true, true, true, true, false, false, false, false, false, false, false, false, false, false]) rfl (fun _ _ _ _ _ h => h) hwx ?_
  apply Exists.intro
  refine ⟨⟨by kernel_rfl, fun wy hw => ?_⟩, ?_⟩
  · (have bw := hw.below; have x0 := (show wy.cell? ⟨w.heap.size, 0, none⟩ = some (.int .i64 xa) from (HX2.out.below bw 0 (by simp)).1); have x1 := (show wy.cell? ⟨w.heap.size, 1, none⟩ = some (.int .i64 xb) from (HX2.out.below bw 1 (by simp)).1); have x2 := (show wy.cell? ⟨w.heap.size, 2, none⟩ = some (.int .i64 xc) from (HX2.out.below bw 2 (by simp)).1); have x5 := (show wy.cell? ⟨w.heap.size, 5, none⟩ = some (.int .i64 xf) from (HX2.out.below bw 5 (by simp)).1); go_simp; try (first | (with_reducible rfl) | (with_reducible exact ⟨rfl, rfl⟩)))
  try simp only [Act.put, List.getElem_toArray, List.getElem_cons_succ, List.getElem_cons_zero, List.setIfInBounds_toArray, List.set_cons_succ, List.set_cons_zero]
  refine wpAnyK_callx (i := 9) rfl (by kernel_rfl) (listed' := #[true, true, true, true, true, true, true, true, true, true, false, false, false, false, false, false, false, false, false]) rfl (fun _ _ _ _ _ h => h) hwx ?_
  apply Exists.intro
  apply Exists.intro
  apply Exists.intro
  refine ⟨⟨by kernel_rfl, fun wy hw => ?_, fun wy hw => ?_⟩, ?_⟩
  · (have bw := hw.below; have x0 := (show wy.cell? ⟨w.heap.size, 0, none⟩ = some (.int .i64 xa) from (HX2.out.below bw 0 (by simp)).1); have x1 := (show wy.cell? ⟨w.heap.size, 1, none⟩ = some (.int .i64 xb) from (HX2.out.below bw 1 (by simp)).1); have x2 := (show wy.cell? ⟨w.heap.size, 2, none⟩ = some (.int .i64 xc) from (HX2.out.below bw 2 (by simp)).1); have x5 := (show wy.cell? ⟨w.heap.size, 5, none⟩ = some (.int .i64 xf) from (HX2.out.below bw 5 (by simp)).1); go_simp; try (first | (with_reducible rfl) | (with_reducible exact ⟨rfl, rfl⟩)))
  · (exact (HPB.out wy).mono (fun e w2 h => ⟨h.1, h.2.symm⟩))
  try simp only [Act.put, List.getElem_toArray, List.getElem_cons_succ, List.getElem_cons_zero, List.setIfInBounds_toArray, List.set_cons_succ, List.set_cons_zero]
  refine wpAnyK_ex (i := 10) rfl (by kernel_rfl) (listed' := #[true, true, true, true, true, true, true, true, true, true, true, false, false, false, false, false, false, false, false]) rfl (fun _ _ _ _ _ h => h) hwx ?_
  apply Exists.intro
  refine ⟨⟨by kernel_rfl, fun wy hw => ?_⟩, ?_⟩
  · (have bw := hw.below; have x0 := (show wy.cell? ⟨w.heap.size, 0, none⟩ = some (.int .i64 xa) from (HX2.out.below bw 0 (by simp)).1); have x1 := (show wy.cell? ⟨w.heap.size, 1, none⟩ = some (.int .i64 xb) from (HX2.out.below bw 1 (by simp)).1); have x2 := (show wy.cell? ⟨w.heap.size, 2, none⟩ = some (.int .i64 xc) from (HX2.out.below bw 2 (by simp)).1); have x5 := (show wy.cell? ⟨w.heap.size, 5, none⟩ = some (.int .i64 xf) from (HX2.out.below bw 5 (by simp)).1); go_simp; try (first | (with_reducible rfl) | (with_reducible exact ⟨rfl, rfl⟩)))
  try simp only [Act.put, List.getElem_toArray, List.getElem_cons_succ, List.getElem_cons_zero, List.setIfInBounds_toArray, List.set_cons_succ, List.set_cons_zero]
  refine wpAnyK_ex (i := 11) rfl (by kernel_rfl) (listed' := #[true, true, true, true, true, true, true, true, true, true, true, true, false, false, false, false, false, false, false]) rfl (fun _ _ _ _ _ h => h) hwx ?_
  apply Exists.intro
  refine ⟨⟨by kernel_rfl, fun wy hw => ?_⟩, ?_⟩
  · (have bw := hw.below; have x0 := (show wy.cell? ⟨w.heap.size, 0, none⟩ = some (.int .i64 xa) from (HX2.out.below bw 0 (by simp)).1); have x1 := (show wy.cell? ⟨w.heap.size, 1, none⟩ = some (.int .i64 xb) from (HX2.out.below bw 1 (by simp)).1); have x2 := (show wy.cell? ⟨w.heap.size, 2, none⟩ = some (.int .i64 xc) from (HX2.out.below bw 2 (by simp)).1); have x5 := (show wy.cell? ⟨w.heap.size, 5, none⟩ = some (.int .i64 xf) from (HX2.out.below bw 5 (by simp)).1); go_simp; try (first | (with_reducible rfl) | (with_reducible exact ⟨rfl, rfl⟩)))
  try simp only [Act.put, List.getElem_toArray, List.getElem_cons_succ, List.getElem_cons_zero, List.setIfInBounds_toArray, List.set_cons_succ, List.set_cons_zero]
  refine wpAnyK_callx (i := 12) rfl (by kernel_rfl) (listed' := #[true, true, true, true, true, true, true, true, true, true, true, true, true, false, false, false, false, false, false]) rfl (fun _ _ _ _ _ h => h) hwx ?_
  apply Exists.intro
  apply Exists.intro
  apply Exists.intro
  refine ⟨⟨by kernel_rfl, fun wy hw => ?_, fun wy hw => ?_⟩, ?_⟩
  · (have bw := hw.below; have x0 := (show wy.cell? ⟨w.heap.size, 0, none⟩ = some (.int .i64 xa) from (HX2.out.below bw 0 (by simp)).1); have x1 := (show wy.cell? ⟨w.heap.size, 1, none⟩ = some (.int .i64 xb) from (HX2.out.below bw 1 (by simp)).1); have x2 := (show wy.cell? ⟨w.heap.size, 2, none⟩ = some (.int .i64 xc) from (HX2.out.below bw 2 (by simp)).1); have x5 := (show wy.cell? ⟨w.heap.size, 5, none⟩ = some (.int .i64 xf) from (HX2.out.below bw 5 (by simp)).1); go_simp; try (first | (with_reducible rfl) | (with_reducible exact ⟨rfl, rfl⟩)))
  · (exact (HPC.out wy).mono (fun e w2 h => ⟨h.1, h.2.symm⟩))
  try simp only [Act.put, List.getElem_toArray, List.getElem_cons_succ, List.getElem_cons_zero, List.setIfInBounds_toArray, List.set_cons_succ, List.set_cons_zero]
  refine wpAnyK_ex (i := 13) rfl (by kernel_rfl) (listed' := #[true, true, true, true, true, true, true, true, true, true, true, true, true, true, false, false, false, false, false]) rfl (fun _ _ _ _ _ h => h) hwx ?_
  apply Exists.intro
  refine ⟨⟨by kernel_rfl, fun wy hw => ?_⟩, ?_⟩
  · (have bw := hw.below; have x0 := (show wy.cell? ⟨w.heap.size, 0, none⟩ = some (.int .i64 xa) from (HX2.out.below bw 0 (by simp)).1); have x1 := (show wy.cell? ⟨w.heap.size, 1, none⟩ = some (.int .i64 xb) from (HX2.out.below bw 1 (by simp)).1); have x2 := (show wy.cell? ⟨w.heap.size, 2, none⟩ = some (.int .i64 xc) from (HX2.out.below bw 2 (by simp)).1); have x5 := (show wy.cell? ⟨w.heap.size, 5, none⟩ = some (.int .i64 xf) from (HX2.out.below bw 5 (by simp)).1); go_simp; try (first | (with_reducible rfl) | (with_reducible exact ⟨rfl, rfl⟩)))
  try simp only [Act.put, List.getElem_toArray, List.getElem_cons_succ, List.getElem_cons_zero, List.setIfInBounds_toArray, List.set_cons_succ, List.set_cons_zero]
  refine wpAnyK_ex (i := 14) rfl (by kernel_rfl) (listed' := #[true, true, true, true, true, true, true, true, true, true, true, true, true, true, true, false, false, false, false]) rfl (fun _ _ _ _ _ h => h) hwx ?_
  apply Exists.intro
  refine ⟨⟨by kernel_rfl, fun wy hw => ?_⟩, ?_⟩
  · (have bw := hw.below; have x0 := (show wy.cell? ⟨w.heap.size, 0, none⟩ = some (.int .i64 xa) from (HX2.out.below bw 0 (by simp)).1); have x1 := (show wy.cell? ⟨w.heap.size, 1, none⟩ = some (.int .i64 xb) from (HX2.out.below bw 1 (by simp)).1); have x2 := (show wy.cell? ⟨w.heap.size, 2, none⟩ = some (.int .i64 xc) from (HX2.out.below bw 2 (by simp)).1); have x5 := (show wy.cell? ⟨w.heap.size, 5, none⟩ = some (.int .i64 xf) from (HX2.out.below bw 5 (by simp)).1); go_simp; try (first | (with_reducible rfl) | (with_reducible exact ⟨rfl, rfl⟩)))
  try simp only [Act.put, List.getElem_toArray, List.getElem_cons_succ, List.getElem_cons_zero, List.setIfInBounds_toArray, List.set_cons_succ, List.set_cons_zero]
  refine wpAnyK_callx (i := 15) rfl (by kernel_rfl) (listed' := #[true, true, true, true, true, true, true, true, true, true, true, true, true, true, true, true, false, false, false]) rfl (fun _ _ _ _ _ h => h) hwx ?_
  apply Exists.intro
  apply Exists.intro
  apply Exists.intro
  refine ⟨⟨by kernel_rfl, fun wy hw => ?_, fun wy hw => ?_⟩, ?_⟩
  · (have bw := hw.below; have x0 := (show wy.cell? ⟨w.heap.size, 0, none⟩ = some (.int .i64 xa) from (HX2.out.below bw 0 (by simp)).1); have x1 := (show wy.cell? ⟨w.heap.size, 1, none⟩ = some (.int .i64 xb) from (HX2.out.below bw 1 (by simp)).1); have x2 := (show wy.cell? ⟨w.heap.size, 2, none⟩ = some (.int .i64 xc) from (HX2.out.below bw 2 (by simp)).1); have x5 := (show wy.cell? ⟨w.heap.size, 5, none⟩ = some (.int .i64 xf) from (HX2.out.below bw 5 (by simp)).1); go_simp; try (first | (with_reducible rfl) | (with_reducible exact ⟨rfl, rfl⟩)))
  · (exact (HPF.out wy).mono (fun e w2 h => ⟨h.1, h.2.symm⟩))
  try simp only [Act.put, List.getElem_toArray, List.getElem_cons_succ, List.getElem_cons_zero, List.setIfInBounds_toArray, List.set_cons_succ, List.set_cons_zero]
  refine wpAnyK_ex (i := 16) rfl (by kernel_rfl) (listed' := #[true, true, true, true, true, true, true, true, true, true, true, true, true, true, true, true, true, false, false]) rfl (fun _ _ _ _ _ h => h) hwx ?_
  apply Exists.intro
  refine ⟨⟨by kernel_rfl, fun wy hw => ?_⟩, ?_⟩
  · (have bw := hw.below; have x0 := (show wy.cell? ⟨w.heap.size, 0, none⟩ = some (.int .i64 xa) from (HX2.out.below bw 0 (by simp)).1); have x1 := (show wy.cell? ⟨w.heap.size, 1, none⟩ = some (.int .i64 xb) from (HX2.out.below bw 1 (by simp)).1); have x2 := (show wy.cell? ⟨w.heap.size, 2, none⟩ = some (.int .i64 xc) from (HX2.out.below bw 2 (by simp)).1); have x5 := (show wy.cell? ⟨w.heap.size, 5, none⟩ = some (.int .i64 xf) from (HX2.out.below bw 5 (by simp)).1); go_simp; try (first | (with_reducible rfl) | (with_reducible exact ⟨rfl, rfl⟩)))
  try simp only [Act.put, List.getElem_toArray, List.getElem_cons_succ, List.getElem_cons_zero, List.setIfInBounds_toArray, List.set_cons_succ, List.set_cons_zero]
  obtain ⟨wE, VE, ZE, KE_, BE⟩ := lay8 wx [.int .i64 0, .int .i64 0, .int .i64 0, .int .i64 0, .int .i64 0, .int .i64 0, .int .i64 0, .int .i64 0, .int .i64 0, .int .i64 0, .int .i64 0, .int .i64 0] 23
  have VE := (show wx.alloc (.cells #[.int .i64 0, .int .i64 0, .int .i64 0, .int .i64 0, .int .i64 0, .int .i64 0, .int .i64 0, .int .i64 0, .int .i64 0, .int .i64 0, .int .i64 0, .int .i64 0] 23) = wE from VE)
  have gE : Grew w2 wE := by rw [← VE]; exact hwx.alloc _
  have hs9 := hwx.below.size
  have HKE := Lib.hid KE_
  have HBE := Lib.hid (below_up8 hwx.below BE)
  refine wpAnyK_fork1 17 (by kernel_rfl) ?_
  refine wpOpK_step rfl (by kernel_rfl) (listed' := #[true, true, true, true, true, true, true, true, true, true, true, true, true, true, true, true, true, true, false]) rfl (by kernel_rfl) (fun K hK => ?_)
  go_simp
  refine hK _ _ (gE) ?_
  clear hK K
  try simp only [Act.put, List.getElem_toArray, List.getElem_cons_succ, List.getElem_cons_zero, List.setIfInBounds_toArray, List.set_cons_succ, List.set_cons_zero]
  refine wpAnyK_end (by kernel_rfl) ?_
  try simp only [pickOps, List.filterMap_cons, List.filterMap_nil, List.getElem?_toArray, List.getElem?_cons_succ, List.getElem?_cons_zero]
  obtain ⟨u0, t0⟩ := HKE.out 0 (by simp)
  obtain ⟨u1, t1⟩ := HKE.out 1 (by simp)
  obtain ⟨u2, t2⟩ := HKE.out 2 (by simp)
  obtain ⟨u3, t3⟩ := HKE.out 3 (by simp)
  obtain ⟨u4, t4⟩ := HKE.out 4 (by simp)
  obtain ⟨u5, t5⟩ := HKE.out 5 (by simp)
  obtain ⟨u6, t6⟩ := HKE.out 6 (by simp)
  obtain ⟨u7, t7⟩ := HKE.out 7 (by simp)
  obtain ⟨u8, t8⟩ := HKE.out 8 (by simp)
  obtain ⟨u9, t9⟩ := HKE.out 9 (by simp)
  obtain ⟨u10, t10⟩ := HKE.out 10 (by simp)
  obtain ⟨u11, t11⟩ := HKE.out 11 (by simp)
  simp only [List.getElem_cons_zero, List.getElem_cons_succ] at u0 u1 u2 u3 u4 u5 u6 u7 u8 u9 u10 u11
  clear VE gE BE KE_
  go_wp2_with fail
  refine NoPanic.normal ?_
  go_wp2_with fail
  go_meet
  exact ⟨wx.heap.size, rfl, Lib.hid ⟨((((((((((((HKE.out.put 0 _).put 1 _).put 2 _).put 3 _).put 4 _).put 5 _).put 6 _).put 7 _).put 8 _).put 9 _).put 10 _).put 11 _), hs9⟩, Lib.hid ((((((((((((HBE.out.setCell (by show _ ≤ wx.heap.size; omega) _).setCell (by show _ ≤ wx.heap.size; omega) _).setCell (by show _ ≤ wx.heap.size; omega) _).setCell (by show _ ≤ wx.heap.size; omega) _).setCell (by show _ ≤ wx.heap.size; omega) _).setCell (by show _ ≤ wx.heap.size; omega) _).setCell (by show _ ≤ wx.heap.size; omega) _).setCell (by show _ ≤ wx.heap.size; omega) _).setCell (by show _ ≤ wx.heap.size; omega) _).setCell (by show _ ≤ wx.heap.size; omega) _).setCell (by show _ ≤ wx.heap.size; omega) _).setCell (by show _ ≤ wx.heap.size; omega) _)⟩
 case rest =>
  obtain ⟨E, rfl, HS, HB3⟩ := hcut
  generalize wc = w3 at *
  have HKE := Lib.hid HS.out.1
  have hE : w2.heap.size ≤ E := HS.out.2
  have HX3 := Lib.hid (HX2.out.below HB3.out)
  have HR3 := Lib.hid (HR2.out.below HB3.out)
  clear HS HX2 HR2
  obtain ⟨u0, t0⟩ := HKE.out 0 (by simp)
  obtain ⟨u1, t1⟩ := HKE.out 1 (by simp)
  obtain ⟨u2, t2⟩ := HKE.out 2 (by simp)
  obtain ⟨u3, t3⟩ := HKE.out 3 (by simp)
  obtain ⟨u4, t4⟩ := HKE.out 4 (by simp)
  obtain ⟨u5, t5⟩ := HKE.out 5 (by simp)
  obtain ⟨u6, t6⟩ := HKE.out 6 (by simp)
  obtain ⟨u7, t7⟩ := HKE.out 7 (by simp)
  obtain ⟨u8, t8⟩ := HKE.out 8 (by simp)
  obtain ⟨u9, t9⟩ := HKE.out 9 (by simp)
  obtain ⟨u10, t10⟩ := HKE.out 10 (by simp)
  obtain ⟨u11, t11⟩ := HKE.out 11 (by simp)
  obtain ⟨r0, s0⟩ := HR3.out 0 (by simp)
  obtain ⟨r1, s1⟩ := HR3.out 1 (by simp)
  obtain ⟨r2, s2⟩ := HR3.out 2 (by simp)
  obtain ⟨r3, s3⟩ := HR3.out 3 (by simp)
  obtain ⟨r4, s4⟩ := HR3.out 4 (by simp)
  obtain ⟨r5, s5⟩ := HR3.out 5 (by simp)
  obtain ⟨r6, s6⟩ := HR3.out 6 (by simp)
  obtain ⟨r7, s7⟩ := HR3.out 7 (by simp)
  obtain ⟨r8, s8⟩ := HR3.out 8 (by simp)
  obtain ⟨r9, s9⟩ := HR3.out 9 (by simp)
  obtain ⟨r10, s10⟩ := HR3.out 10 (by simp)
  obtain ⟨r11, s11⟩ := HR3.out 11 (by simp)
  obtain ⟨x0, _⟩ := HX3.out 0 (by simp)
  obtain ⟨x1, _⟩ := HX3.out 1 (by simp)
  obtain ⟨x2, _⟩ := HX3.out 2 (by simp)
  obtain ⟨x3, _⟩ := HX3.out 3 (by simp)
  obtain ⟨x4, _⟩ := HX3.out 4 (by simp)
  obtain ⟨x5, _⟩ := HX3.out 5 (by simp)
  simp only [List.getElem_cons_zero, List.getElem_cons_succ] at u0 r0 u1 r1 u2 r2 u3 r3 u4 r4 u5 r5 u6 r6 u7 r7 u8 r8 u9 r9 u10 r10 u11 r11 x0 x1 x2 x3 x4 x5
  have hk : PA = 0 ∨ PA = 1 ∨ PA = 2 ∨ PA = 3 ∨ PA = 4 ∨ PA = 5 ∨ PA = 6 := by omega
  rcases hk with rfl | rfl | rfl | rfl | rfl | rfl | rfl
  · skip
    clear u0 t0 r0 s0 u1 t1 r1 s1 u2 t2 r2 s2 u3 t3 r3 s3 u4 t4 r4 s4 u5 t5 r5 s5 u6 t6 r6 s6 u7 t7 r7 s7 u8 t8 r8 s8 u9 t9 r9 s9 u10 t10 r10 s10 u11 t11 r11 s11 x0 x1 x2 x3 x4 x5
    have u3 := (show w3.cell? ⟨E, 3, none⟩ = some (.int .i64 (1 + 0)) from (HKE.out 3 (by simp)).1)
    go_upto_region 4 with fail
    clear u3
    have w1 : IntKind.i64.wrap (PC + 1) = PC + 1 := wrapq8 (by omega)
    have w2' : IntKind.i64.wrap (PC + 1 + PD9) = PC + 1 + PD9 := wrapq8 (by omega)
    have htm : (PC + 1 + PD9).tmod 10 = (PC + 1 + PD9) % 10 := Int.tmod_eq_emod_of_nonneg (by omega)
    go_cut [39] from 31 to 39 (fun _ wx => Hid (CellsAt wx E [.int .i64 ag, .int .i64 sq, .int .i64 tm, .int .i64 (1 + 0), .int .i64 PB, .int .i64 PC, .int .i64 ((PC + 1 + PD9) % 10), .int .i64 0, .int .i64 0, .int .i64 0, .int .i64 0, .int .i64 PF]) ∧ Hid (CellsAt wx (w.heap.size + 1) [.int .i64 0, .int .i64 0, .int .i64 0, .int .i64 0, .int .i64 0, .int .i64 0, .int .i64 0, .int .i64 0, .int .i64 0, .int .i64 0, .int .i64 0, .int .i64 0]) ∧ Hid (CellsAt wx w.heap.size [.int .i64 xa, .int .i64 xb, .int .i64 xc, .int .i64 xd, .int .i64 xe, .int .i64 xf]) ∧ Hid (Below w2.heap.size w2 wx))
    case first =>
     skip
     refine wp_region_noPanic ?_
     refine wp_region_Kx (C := Grew w3) [8, 9] 8 #[false, false, false, false, false, false, false, false, false, false] (by kernel_rfl) (by kernel_rfl) (by kernel_rfl) (grew0 _) ?_
     intro wx hwx
     refine wpAnyK_ex (i := 0) rfl (by kernel_rfl) (listed' := #[true, false, false, false, false, false, false, false, false, false]) rfl (fun _ _ _ _ _ h => h) hwx ?_
     apply Exists.intro
     refine ⟨⟨by kernel_rfl, fun wy hw => ?_⟩, ?_⟩
     · (have bw := hw.below; have u5 := (show wy.cell? ⟨E, 5, none⟩ = some (.int .i64 PC) from (HKE.out.below bw 5 (by simp)).1); have x3 := (show wy.cell? ⟨w.heap.size, 3, none⟩ = some (.int .i64 xd) from (HX3.out.below bw 3 (by simp)).1); go_simp; try (first | (with_reducible rfl) | (with_reducible exact ⟨rfl, rfl⟩)))
     try simp only [Act.put, List.getElem_toArray, List.getElem_cons_zero, List.setIfInBounds_toArray, List.set_cons_succ, List.set_cons_zero]
     refine wpAnyK_ex (i := 1) rfl (by kernel_rfl) (listed' := #[true, true, false, false, false, false, false, false, false, false]) rfl (fun _ _ _ _ _ h => h) hwx ?_
     apply Exists.intro
     refine ⟨⟨by kernel_rfl, fun wy hw => ?_⟩, ?_⟩
     · (have bw := hw.below; have u5 := (show wy.cell? ⟨E, 5, none⟩ = some (.int .i64 PC) from (HKE.out.below bw 5 (by simp)).1); have x3 := (show wy.cell? ⟨w.heap.size, 3, none⟩ = some (.int .i64 xd) from (HX3.out.below bw 3 (by simp)).1); go_simp; try (first | (with_reducible rfl) | (with_reducible exact ⟨rfl, rfl⟩)))
     try simp only [Act.put, List.getElem_toArray, List.getElem_cons_succ, List.getElem_cons_zero, List.setIfInBounds_toArray, List.set_cons_succ, List.set_cons_zero]
     refine wpAnyK_ex (i := 2) rfl (by kernel_rfl) (listed' := #[true, true, true, false, false, false, false, false, false, false]) rfl (fun _ _ _ _ _ h => h) hwx ?_
     apply Exists.intro
     refine ⟨⟨by kernel_rfl, fun wy hw => ?_⟩, ?_⟩
     · (have bw := hw.below; have u5 := (show wy.cell? ⟨E, 5, none⟩ = some (.int .i64 PC) from (HKE.out.below bw 5 (by simp)).1); have x3 := (show wy.cell? ⟨w.heap.size, 3, none⟩ = some (.int .i64 xd) from (HX3.out.below bw 3 (by simp)).1); go_simp; try (first | (with_reducible rfl) | (with_reducible exact ⟨rfl, rfl⟩)))
     try simp only [Act.put, List.getElem_toArray, List.getElem_cons_succ, List.getElem_cons_zero, List.setIfInBounds_toArray, List.set_cons_succ, List.set_cons_zero]
     refine wpAnyK_ex (i := 3) rfl (by kernel_rfl) (listed' := #[true, true, true, true, false, false, false, false, false, false]) rfl (fun _ _ _ _ _ h => h) hwx ?_
     apply Exists.intro
     refine ⟨⟨by kernel_rfl, fun wy hw => ?_⟩, ?_⟩
     · (have bw := hw.below; have u5 := (show wy.cell? ⟨E, 5, none⟩ = some (.int .i64 PC) from (HKE.out.below bw 5 (by simp)).1); have x3 := (show wy.cell? ⟨w.heap.size, 3, none⟩ = some (.int .i64 xd) from (HX3.out.below bw 3 (by simp)).1); go_simp; try (first | (with_reducible rfl) | (with_reducible exact ⟨rfl, rfl⟩)))
     try simp only [Act.put, List.getElem_toArray, List.getElem_cons_succ, List.getElem_cons_zero, List.setIfInBounds_toArray, List.set_cons_succ, List.set_cons_zero]
     refine wpAnyK_ex (i := 4) rfl (by kernel_rfl) (listed' := #[true, true, true, true, true, false, false, false, false, false]) rfl (fun _ _ _ _ _ h => h) hwx ?_
     apply Exists.intro
     refine ⟨⟨by kernel_rfl, fun wy hw => ?_⟩, ?_⟩
     · (have bw := hw.below; have u5 := (show wy.cell? ⟨E, 5, none⟩ = some (.int .i64 PC) from (HKE.out.below bw 5 (by simp)).1); have x3 := (show wy.cell? ⟨w.heap.size, 3, none⟩ = some (.int .i64 xd) from (HX3.out.below bw 3 (by simp)).1); go_simp; try (first | (with_reducible rfl) | (with_reducible exact ⟨rfl, rfl⟩)))
     try simp only [Act.put, List.getElem_toArray, List.getElem_cons_succ, List.getElem_cons_zero, List.setIfInBounds_toArray, List.set_cons_succ, List.set_cons_zero]
     refine wpAnyK_callx (i := 5) rfl (by kernel_rfl) (listed' := #[true, true, true, true, true, true, false, false, false, false]) rfl (fun _ _ _ _ _ h => h) hwx ?_
     apply Exists.intro
     apply Exists.intro
     apply Exists.intro
     refine ⟨⟨by kernel_rfl, fun wy hw => ?_, fun wy hw => ?_⟩, ?_⟩
     · (have bw := hw.below; have u5 := (show wy.cell? ⟨E, 5, none⟩ = some (.int .i64 PC) from (HKE.out.below bw 5 (by simp)).1); have x3 := (show wy.cell? ⟨w.heap.size, 3, none⟩ = some (.int .i64 xd) from (HX3.out.below bw 3 (by simp)).1); go_simp; try (first | (with_reducible rfl) | (with_reducible exact ⟨rfl, rfl⟩)))
     · (exact (HPD9.out wy).mono (fun e w2 h => ⟨h.1, h.2.symm⟩))
     try simp only [Act.put, List.getElem_toArray, List.getElem_cons_succ, List.getElem_cons_zero, List.setIfInBounds_toArray, List.set_cons_succ, List.set_cons_zero]
     refine wpAnyK_ex (i := 6) rfl (by kernel_rfl) (listed' := #[true, true, true, true, true, true, true, false, false, false]) rfl (fun _ _ _ _ _ h => h) hwx ?_
     apply Exists.intro
     refine ⟨⟨by kernel_rfl, fun wy hw => ?_⟩, ?_⟩
     · (have bw := hw.below; have u5 := (show wy.cell? ⟨E, 5, none⟩ = some (.int .i64 PC) from (HKE.out.below bw 5 (by simp)).1); have x3 := (show wy.cell? ⟨w.heap.size, 3, none⟩ = some (.int .i64 xd) from (HX3.out.below bw 3 (by simp)).1); go_simp; try (first | (with_reducible rfl) | (with_reducible exact ⟨rfl, rfl⟩)))
     try simp only [Act.put, List.getElem_toArray, List.getElem_cons_succ, List.getElem_cons_zero, List.setIfInBounds_toArray, List.set_cons_succ, List.set_cons_zero]
     refine wpAnyK_ex (i := 7) rfl (by kernel_rfl) (listed' := #[true, true, true, true, true, true, true, true, false, false]) rfl (fun _ _ _ _ _ h => h) hwx ?_
     apply Exists.intro
     refine ⟨⟨by kernel_rfl, fun wy hw => ?_⟩, ?_⟩
     · (have bw := hw.below; have u5 := (show wy.cell? ⟨E, 5, none⟩ = some (.int .i64 PC) from (HKE.out.below bw 5 (by simp)).1); have x3 := (show wy.cell? ⟨w.heap.size, 3, none⟩ = some (.int .i64 xd) from (HX3.out.below bw 3 (by simp)).1); go_simp; try (first | (with_reducible rfl) | (with_reducible exact ⟨rfl, rfl⟩)))
     try simp only [Act.put, List.getElem_toArray, List.getElem_cons_succ, List.getElem_cons_zero, List.setIfInBounds_toArray, List.set_cons_succ, List.set_cons_zero]
     refine wpAnyK_end (by kernel_rfl) ?_
     try simp only [pickOps, List.filterMap_cons, List.filterMap_nil, List.getElem?_toArray, List.getElem?_cons_succ, List.getElem?_cons_zero]
     obtain ⟨u6, t6⟩ := HKE.out.below hwx.below 6 (by simp)
     simp only [List.getElem_cons_zero, List.getElem_cons_succ] at u6
     go_wp2_with fail
     refine NoPanic.normal ?_
     go_wp2_with fail
     go_meet
     exact ⟨Lib.hid ((HKE.out.below hwx.below).put 6 _), Lib.hid ((HR3.out.below hwx.below).far (show E ≠ w.heap.size + 1 by omega)), Lib.hid ((HX3.out.below hwx.below).far (show E ≠ w.heap.size by omega)), Lib.hid ((below_up8 HB3.out hwx.below).setCell hE _)⟩
    case rest =>
     obtain ⟨HKE4, HR4, HX4, HB4⟩ := hcut
     generalize wc = w4 at *
     clear HKE HR3 HX3 w1 w2' htm
     obtain ⟨LK, hLK⟩ : ∃ LK, LK = (PC + 1 + PD9) % 10 := ⟨_, rfl⟩
     rw [← hLK] at HKE4
     have HLK := Lib.hid hLK
     clear hLK
     obtain ⟨u0, t0⟩ := HKE4.out 0 (by simp)
     obtain ⟨u1, t1⟩ := HKE4.out 1 (by simp)
     obtain ⟨u2, t2⟩ := HKE4.out 2 (by simp)
     obtain ⟨u3, t3⟩ := HKE4.out 3 (by simp)
     obtain ⟨u4, t4⟩ := HKE4.out 4 (by simp)
     obtain ⟨u5, t5⟩ := HKE4.out 5 (by simp)
     obtain ⟨u6, t6⟩ := HKE4.out 6 (by simp)
     obtain ⟨u7, t7⟩ := HKE4.out 7 (by simp)
     obtain ⟨u8, t8⟩ := HKE4.out 8 (by simp)
     obtain ⟨u9, t9⟩ := HKE4.out 9 (by simp)
     obtain ⟨u10, t10⟩ := HKE4.out 10 (by simp)
     obtain ⟨u11, t11⟩ := HKE4.out 11 (by simp)
     obtain ⟨r0, s0⟩ := HR4.out 0 (by simp)
     obtain ⟨r1, s1⟩ := HR4.out 1 (by simp)
     obtain ⟨r2, s2⟩ := HR4.out 2 (by simp)
     obtain ⟨r3, s3⟩ := HR4.out 3 (by simp)
     obtain ⟨r4, s4⟩ := HR4.out 4 (by simp)
     obtain ⟨r5, s5⟩ := HR4.out 5 (by simp)
     obtain ⟨r6, s6⟩ := HR4.out 6 (by simp)
     obtain ⟨r7, s7⟩ := HR4.out 7 (by simp)
     obtain ⟨r8, s8⟩ := HR4.out 8 (by simp)
     obtain ⟨r9, s9⟩ := HR4.out 9 (by simp)
     obtain ⟨r10, s10⟩ := HR4.out 10 (by simp)
     obtain ⟨r11, s11⟩ := HR4.out 11 (by simp)
     obtain ⟨x0, _⟩ := HX4.out 0 (by simp)
     obtain ⟨x1, _⟩ := HX4.out 1 (by simp)
     obtain ⟨x2, _⟩ := HX4.out 2 (by simp)
     obtain ⟨x3, _⟩ := HX4.out 3 (by simp)
     obtain ⟨x4, _⟩ := HX4.out 4 (by simp)
     obtain ⟨x5, _⟩ := HX4.out 5 (by simp)
     simp only [List.getElem_cons_zero, List.getElem_cons_succ] at u0 r0 u1 r1 u2 r2 u3 r3 u4 r4 u5 r5 u6 r6 u7 r7 u8 r8 u9 r9 u10 r10 u11 r11 x0 x1 x2 x3 x4 x5
     have hwp : IntKind.i64.wrap (PF5 - 1) = PF5 - 1 := wrapq8 (by omega)
     by_cases h3 : PD3 = 0
     · have h31 : (PD3 == 0) = true := by rw [h3]; rfl
       subst h3
       have HEV := Lib.hid (show ME = ⟨ag, sq, tm, 1, PB, PC, -1, 0, PE4, PE5, PF5 - 1, PF⟩ from by rw [HME.out]; rfl)
       have HKZ := Lib.hid (show CellsAt ((((((((((((((((w4.setCell ⟨E, 6, none⟩ (.int .i64 (-1))).setCell ⟨E, 8, none⟩ (.int .i64 (PE4))).setCell ⟨E, 9, none⟩ (.int .i64 (PE5))).setCell ⟨E, 10, none⟩ (.int .i64 (PF5 - 1))).setCell ⟨w.heap.size + 1, 0, none⟩ (.int .i64 (ag))).setCell ⟨w.heap.size + 1, 1, none⟩ (.int .i64 (sq))).setCell ⟨w.heap.size + 1, 2, none⟩ (.int .i64 (tm))).setCell ⟨w.heap.size + 1, 3, none⟩ (.int .i64 (1))).setCell ⟨w.heap.size + 1, 4, none⟩ (.int .i64 (PB))).setCell ⟨w.heap.size + 1, 5, none⟩ (.int .i64 (PC))).setCell ⟨w.heap.size + 1, 6, none⟩ (.int .i64 (-1))).setCell ⟨w.heap.size + 1, 7, none⟩ (.int .i64 (0))).setCell ⟨w.heap.size + 1, 8, none⟩ (.int .i64 (PE4))).setCell ⟨w.heap.size + 1, 9, none⟩ (.int .i64 (PE5))).setCell ⟨w.heap.size + 1, 10, none⟩ (.int .i64 (PF5 - 1))).setCell ⟨w.heap.size + 1, 11, none⟩ (.int .i64 (PF))) (w.heap.size + 1) [.int .i64 (ag), .int .i64 (sq), .int .i64 (tm), .int .i64 (1), .int .i64 (PB), .int .i64 (PC), .int .i64 (-1), .int .i64 (0), .int .i64 (PE4), .int .i64 (PE5), .int .i64 (PF5 - 1), .int .i64 (PF)] from ((((((((((((((((HR4.out.far (show E ≠ w.heap.size + 1 by omega)).far (show E ≠ w.heap.size + 1 by omega)).far (show E ≠ w.heap.size + 1 by omega)).far (show E ≠ w.heap.size + 1 by omega)).put 0 (.int .i64 (ag))).put 1 (.int .i64 (sq))).put 2 (.int .i64 (tm))).put 3 (.int .i64 (1))).put 4 (.int .i64 (PB))).put 5 (.int .i64 (PC))).put 6 (.int .i64 (-1))).put 7 (.int .i64 (0))).put 8 (.int .i64 (PE4))).put 9 (.int .i64 (PE5))).put 10 (.int .i64 (PF5 - 1))).put 11 (.int .i64 (PF))))
       have HBZ := Lib.hid (show Below w.heap.size w ((((((((((((((((w4.setCell ⟨E, 6, none⟩ (.int .i64 (-1))).setCell ⟨E, 8, none⟩ (.int .i64 (PE4))).setCell ⟨E, 9, none⟩ (.int .i64 (PE5))).setCell ⟨E, 10, none⟩ (.int .i64 (PF5 - 1))).setCell ⟨w.heap.size + 1, 0, none⟩ (.int .i64 (ag))).setCell ⟨w.heap.size + 1, 1, none⟩ (.int .i64 (sq))).setCell ⟨w.heap.size + 1, 2, none⟩ (.int .i64 (tm))).setCell ⟨w.heap.size + 1, 3, none⟩ (.int .i64 (1))).setCell ⟨w.heap.size + 1, 4, none⟩ (.int .i64 (PB))).setCell ⟨w.heap.size + 1, 5, none⟩ (.int .i64 (PC))).setCell ⟨w.heap.size + 1, 6, none⟩ (.int .i64 (-1))).setCell ⟨w.heap.size + 1, 7, none⟩ (.int .i64 (0))).setCell ⟨w.heap.size + 1, 8, none⟩ (.int .i64 (PE4))).setCell ⟨w.heap.size + 1, 9, none⟩ (.int .i64 (PE5))).setCell ⟨w.heap.size + 1, 10, none⟩ (.int .i64 (PF5 - 1))).setCell ⟨w.heap.size + 1, 11, none⟩ (.int .i64 (PF))) from (((((((((((((HB2.out.trans (((((HB4.out.setCell (p := ⟨E, 6, none⟩) hE (.int .i64 (-1))).setCell (p := ⟨E, 8, none⟩) hE (.int .i64 (PE4))).setCell (p := ⟨E, 9, none⟩) hE (.int .i64 (PE5))).setCell (p := ⟨E, 10, none⟩) hE (.int .i64 (PF5 - 1))).mono (by omega))).setCell (p := ⟨w.heap.size + 1, 0, none⟩) (Nat.le_succ _) (.int .i64 (ag))).setCell (p := ⟨w.heap.size + 1, 1, none⟩) (Nat.le_succ _) (.int .i64 (sq))).setCell (p := ⟨w.heap.size + 1, 2, none⟩) (Nat.le_succ _) (.int .i64 (tm))).setCell (p := ⟨w.heap.size + 1, 3, none⟩) (Nat.le_succ _) (.int .i64 (1))).setCell (p := ⟨w.heap.size + 1, 4, none⟩) (Nat.le_succ _) (.int .i64 (PB))).setCell (p := ⟨w.heap.size + 1, 5, none⟩) (Nat.le_succ _) (.int .i64 (PC))).setCell (p := ⟨w.heap.size + 1, 6, none⟩) (Nat.le_succ _) (.int .i64 (-1))).setCell (p := ⟨w.heap.size + 1, 7, none⟩) (Nat.le_succ _) (.int .i64 (0))).setCell (p := ⟨w.heap.size + 1, 8, none⟩) (Nat.le_succ _) (.int .i64 (PE4))).setCell (p := ⟨w.heap.size + 1, 9, none⟩) (Nat.le_succ _) (.int .i64 (PE5))).setCell (p := ⟨w.heap.size + 1, 10, none⟩) (Nat.le_succ _) (.int .i64 (PF5 - 1))).setCell (p := ⟨w.heap.size + 1, 11, none⟩) (Nat.le_succ _) (.int .i64 (PF))))
       go_wp2_with (first | fail | (go_at_call 42; (with_reducible refine (HPD3.out _).mono ?_); rintro e z ⟨rfl, rfl⟩) | (go_at_call 42; (with_reducible refine (HPE4.out _).mono ?_); rintro e z ⟨rfl, rfl⟩) | (go_at_call 42; (with_reducible refine (HPE5.out _).mono ?_); rintro e z ⟨rfl, rfl⟩) | (go_at_call 42; (with_reducible refine (HPF5.out _).mono ?_); rintro e z ⟨rfl, rfl⟩))
       obtain ⟨WF, hWF⟩ : ∃ WF, WF = ((((((((((((((((w4.setCell ⟨E, 6, none⟩ (.int .i64 (-1))).setCell ⟨E, 8, none⟩ (.int .i64 (PE4))).setCell ⟨E, 9, none⟩ (.int .i64 (PE5))).setCell ⟨E, 10, none⟩ (.int .i64 (PF5 - 1))).setCell ⟨w.heap.size + 1, 0, none⟩ (.int .i64 (ag))).setCell ⟨w.heap.size + 1, 1, none⟩ (.int .i64 (sq))).setCell ⟨w.heap.size + 1, 2, none⟩ (.int .i64 (tm))).setCell ⟨w.heap.size + 1, 3, none⟩ (.int .i64 (1))).setCell ⟨w.heap.size + 1, 4, none⟩ (.int .i64 (PB))).setCell ⟨w.heap.size + 1, 5, none⟩ (.int .i64 (PC))).setCell ⟨w.heap.size + 1, 6, none⟩ (.int .i64 (-1))).setCell ⟨w.heap.size + 1, 7, none⟩ (.int .i64 (0))).setCell ⟨w.heap.size + 1, 8, none⟩ (.int .i64 (PE4))).setCell ⟨w.heap.size + 1, 9, none⟩ (.int .i64 (PE5))).setCell ⟨w.heap.size + 1, 10, none⟩ (.int .i64 (PF5 - 1))).setCell ⟨w.heap.size + 1, 11, none⟩ (.int .i64 (PF))) := ⟨_, rfl⟩
       rw [← hWF] at HKZ HBZ ⊢
       clear u0 t0 r0 s0 u1 t1 r1 s1 u2 t2 r2 s2 u3 t3 r3 s3 u4 t4 r4 s4 u5 t5 r5 s5 u6 t6 r6 s6 u7 t7 r7 s7 u8 t8 r8 s8 u9 t9 r9 s9 u10 t10 r10 s10 u11 t11 r11 s11 hWF
       obtain ⟨g0, _⟩ := HKZ.out 0 (by simp)
       obtain ⟨g1, _⟩ := HKZ.out 1 (by simp)
       obtain ⟨g2, _⟩ := HKZ.out 2 (by simp)
       obtain ⟨g3, _⟩ := HKZ.out 3 (by simp)
       obtain ⟨g4, _⟩ := HKZ.out 4 (by simp)
       obtain ⟨g5, _⟩ := HKZ.out 5 (by simp)
       obtain ⟨g6, _⟩ := HKZ.out 6 (by simp)
       obtain ⟨g7, _⟩ := HKZ.out 7 (by simp)
       obtain ⟨g8, _⟩ := HKZ.out 8 (by simp)
       obtain ⟨g9, _⟩ := HKZ.out 9 (by simp)
       obtain ⟨g10, _⟩ := HKZ.out 10 (by simp)
       obtain ⟨g11, _⟩ := HKZ.out 11 (by simp)
       simp only [List.getElem_cons_zero, List.getElem_cons_succ] at g0 g1 g2 g3 g4 g5 g6 g7 g8 g9 g10 g11
       rw [HEV.out]
       exact bodyPost_ret (v := .agg #[.int .i64 (ag), .int .i64 (sq), .int .i64 (tm), .int .i64 (1), .int .i64 (PB), .int .i64 (PC), .int .i64 (-1), .int .i64 (0), .int .i64 (PE4), .int .i64 (PE5), .int .i64 (PF5 - 1), .int .i64 (PF)]) (by simp [results, Tryz.results37, go_sem, g0, g1, g2, g3, g4, g5, g6, g7, g8, g9, g10, g11]) rfl ⟨rfl, HBZ.out⟩
     · have h31 : (PD3 == 0) = false := by rw [beq_eq_false_iff_ne]; exact h3
       have HEV := Lib.hid (show ME = ⟨ag, sq, tm, 1, PB, PC, LK, 0, PE4, PE5, PF5 - 1, PF⟩ from by rw [HME.out, HLK.out, if_pos rfl, if_neg h3])
       have HKZ := Lib.hid (show CellsAt (((((((((((((((w4.setCell ⟨E, 8, none⟩ (.int .i64 (PE4))).setCell ⟨E, 9, none⟩ (.int .i64 (PE5))).setCell ⟨E, 10, none⟩ (.int .i64 (PF5 - 1))).setCell ⟨w.heap.size + 1, 0, none⟩ (.int .i64 (ag))).setCell ⟨w.heap.size + 1, 1, none⟩ (.int .i64 (sq))).setCell ⟨w.heap.size + 1, 2, none⟩ (.int .i64 (tm))).setCell ⟨w.heap.size + 1, 3, none⟩ (.int .i64 (1))).setCell ⟨w.heap.size + 1, 4, none⟩ (.int .i64 (PB))).setCell ⟨w.heap.size + 1, 5, none⟩ (.int .i64 (PC))).setCell ⟨w.heap.size + 1, 6, none⟩ (.int .i64 (LK))).setCell ⟨w.heap.size + 1, 7, none⟩ (.int .i64 (0))).setCell ⟨w.heap.size + 1, 8, none⟩ (.int .i64 (PE4))).setCell ⟨w.heap.size + 1, 9, none⟩ (.int .i64 (PE5))).setCell ⟨w.heap.size + 1, 10, none⟩ (.int .i64 (PF5 - 1))).setCell ⟨w.heap.size + 1, 11, none⟩ (.int .i64 (PF))) (w.heap.size + 1) [.int .i64 (ag), .int .i64 (sq), .int .i64 (tm), .int .i64 (1), .int .i64 (PB), .int .i64 (PC), .int .i64 (LK), .int .i64 (0), .int .i64 (PE4), .int .i64 (PE5), .int .i64 (PF5 - 1), .int .i64 (PF)] from (((((((((((((((HR4.out.far (show E ≠ w.heap.size + 1 by omega)).far (show E ≠ w.heap.size + 1 by omega)).far (show E ≠ w.heap.size + 1 by omega)).put 0 (.int .i64 (ag))).put 1 (.int .i64 (sq))).put 2 (.int .i64 (tm))).put 3 (.int .i64 (1))).put 4 (.int .i64 (PB))).put 5 (.int .i64 (PC))).put 6 (.int .i64 (LK))).put 7 (.int .i64 (0))).put 8 (.int .i64 (PE4))).put 9 (.int .i64 (PE5))).put 10 (.int .i64 (PF5 - 1))).put 11 (.int .i64 (PF))))
       have HBZ := Lib.hid (show Below w.heap.size w (((((((((((((((w4.setCell ⟨E, 8, none⟩ (.int .i64 (PE4))).setCell ⟨E, 9, none⟩ (.int .i64 (PE5))).setCell ⟨E, 10, none⟩ (.int .i64 (PF5 - 1))).setCell ⟨w.heap.size + 1, 0, none⟩ (.int .i64 (ag))).setCell ⟨w.heap.size + 1, 1, none⟩ (.int .i64 (sq))).setCell ⟨w.heap.size + 1, 2, none⟩ (.int .i64 (tm))).setCell ⟨w.heap.size + 1, 3, none⟩ (.int .i64 (1))).setCell ⟨w.heap.size + 1, 4, none⟩ (.int .i64 (PB))).setCell ⟨w.heap.size + 1, 5, none⟩ (.int .i64 (PC))).setCell ⟨w.heap.size + 1, 6, none⟩ (.int .i64 (LK))).setCell ⟨w.heap.size + 1, 7, none⟩ (.int .i64 (0))).setCell ⟨w.heap.size + 1, 8, none⟩ (.int .i64 (PE4))).setCell ⟨w.heap.size + 1, 9, none⟩ (.int .i64 (PE5))).setCell ⟨w.heap.size + 1, 10, none⟩ (.int .i64 (PF5 - 1))).setCell ⟨w.heap.size + 1, 11, none⟩ (.int .i64 (PF))) from (((((((((((((HB2.out.trans ((((HB4.out.setCell (p := ⟨E, 8, none⟩) hE (.int .i64 (PE4))).setCell (p := ⟨E, 9, none⟩) hE (.int .i64 (PE5))).setCell (p := ⟨E, 10, none⟩) hE (.int .i64 (PF5 - 1))).mono (by omega))).setCell (p := ⟨w.heap.size + 1, 0, none⟩) (Nat.le_succ _) (.int .i64 (ag))).setCell (p := ⟨w.heap.size + 1, 1, none⟩) (Nat.le_succ _) (.int .i64 (sq))).setCell (p := ⟨w.heap.size + 1, 2, none⟩) (Nat.le_succ _) (.int .i64 (tm))).setCell (p := ⟨w.heap.size + 1, 3, none⟩) (Nat.le_succ _) (.int .i64 (1))).setCell (p := ⟨w.heap.size + 1, 4, none⟩) (Nat.le_succ _) (.int .i64 (PB))).setCell (p := ⟨w.heap.size + 1, 5, none⟩) (Nat.le_succ _) (.int .i64 (PC))).setCell (p := ⟨w.heap.size + 1, 6, none⟩) (Nat.le_succ _) (.int .i64 (LK))).setCell (p := ⟨w.heap.size + 1, 7, none⟩) (Nat.le_succ _) (.int .i64 (0))).setCell (p := ⟨w.heap.size + 1, 8, none⟩) (Nat.le_succ _) (.int .i64 (PE4))).setCell (p := ⟨w.heap.size + 1, 9, none⟩) (Nat.le_succ _) (.int .i64 (PE5))).setCell (p := ⟨w.heap.size + 1, 10, none⟩) (Nat.le_succ _) (.int .i64 (PF5 - 1))).setCell (p := ⟨w.heap.size + 1, 11, none⟩) (Nat.le_succ _) (.int .i64 (PF))))
       go_wp2_with (first | fail | (go_at_call 42; (with_reducible refine (HPD3.out _).mono ?_); rintro e z ⟨rfl, rfl⟩) | (go_at_call 42; (with_reducible refine (HPE4.out _).mono ?_); rintro e z ⟨rfl, rfl⟩) | (go_at_call 42; (with_reducible refine (HPE5.out _).mono ?_); rintro e z ⟨rfl, rfl⟩) | (go_at_call 42; (with_reducible refine (HPF5.out _).mono ?_); rintro e z ⟨rfl, rfl⟩))
       obtain ⟨WF, hWF⟩ : ∃ WF, WF = (((((((((((((((w4.setCell ⟨E, 8, none⟩ (.int .i64 (PE4))).setCell ⟨E, 9, none⟩ (.int .i64 (PE5))).setCell ⟨E, 10, none⟩ (.int .i64 (PF5 - 1))).setCell ⟨w.heap.size + 1, 0, none⟩ (.int .i64 (ag))).setCell ⟨w.heap.size + 1, 1, none⟩ (.int .i64 (sq))).setCell ⟨w.heap.size + 1, 2, none⟩ (.int .i64 (tm))).setCell ⟨w.heap.size + 1, 3, none⟩ (.int .i64 (1))).setCell ⟨w.heap.size + 1, 4, none⟩ (.int .i64 (PB))).setCell ⟨w.heap.size + 1, 5, none⟩ (.int .i64 (PC))).setCell ⟨w.heap.size + 1, 6, none⟩ (.int .i64 (LK))).setCell ⟨w.heap.size + 1, 7, none⟩ (.int .i64 (0))).setCell ⟨w.heap.size + 1, 8, none⟩ (.int .i64 (PE4))).setCell ⟨w.heap.size + 1, 9, none⟩ (.int .i64 (PE5))).setCell ⟨w.heap.size + 1, 10, none⟩ (.int .i64 (PF5 - 1))).setCell ⟨w.heap.size + 1, 11, none⟩ (.int .i64 (PF))) := ⟨_, rfl⟩
       rw [← hWF] at HKZ HBZ ⊢
       clear u0 t0 r0 s0 u1 t1 r1 s1 u2 t2 r2 s2 u3 t3 r3 s3 u4 t4 r4 s4 u5 t5 r5 s5 u6 t6 r6 s6 u7 t7 r7 s7 u8 t8 r8 s8 u9 t9 r9 s9 u10 t10 r10 s10 u11 t11 r11 s11 hWF
       obtain ⟨g0, _⟩ := HKZ.out 0 (by simp)
       obtain ⟨g1, _⟩ := HKZ.out 1 (by simp)
       obtain ⟨g2, _⟩ := HKZ.out 2 (by simp)
       obtain ⟨g3, _⟩ := HKZ.out 3 (by simp)
       obtain ⟨g4, _⟩ := HKZ.out 4 (by simp)
       obtain ⟨g5, _⟩ := HKZ.out 5 (by simp)
       obtain ⟨g6, _⟩ := HKZ.out 6 (by simp)
       obtain ⟨g7, _⟩ := HKZ.out 7 (by simp)
       obtain ⟨g8, _⟩ := HKZ.out 8 (by simp)
       obtain ⟨g9, _⟩ := HKZ.out 9 (by simp)
       obtain ⟨g10, _⟩ := HKZ.out 10 (by simp)
       obtain ⟨g11, _⟩ := HKZ.out 11 (by simp)
       simp only [List.getElem_cons_zero, List.getElem_cons_succ] at g0 g1 g2 g3 g4 g5 g6 g7 g8 g9 g10 g11
       rw [HEV.out]
       exact bodyPost_ret (v := .agg #[.int .i64 (ag), .int .i64 (sq), .int .i64 (tm), .int .i64 (1), .int .i64 (PB), .int .i64 (PC), .int .i64 (LK), .int .i64 (0), .int .i64 (PE4), .int .i64 (PE5), .int .i64 (PF5 - 1), .int .i64 (PF)]) (by simp [results, Tryz.results37, go_sem, g0, g1, g2, g3, g4, g5, g6, g7, g8, g9, g10, g11]) rfl ⟨rfl, HBZ.out⟩
  · skip
    have HEV := Lib.hid (show ME = ⟨ag, sq, tm, 2, PB, PC, 0, 0, 0, 0, 0, PF⟩ from by rw [HME.out]; rfl)
    have HKZ := Lib.hid (show CellsAt ((((((((((((w3.setCell ⟨w.heap.size + 1, 0, none⟩ (.int .i64 (ag))).setCell ⟨w.heap.size + 1, 1, none⟩ (.int .i64 (sq))).setCell ⟨w.heap.size + 1, 2, none⟩ (.int .i64 (tm))).setCell ⟨w.heap.size + 1, 3, none⟩ (.int .i64 (2))).setCell ⟨w.heap.size + 1, 4, none⟩ (.int .i64 (PB))).setCell ⟨w.heap.size + 1, 5, none⟩ (.int .i64 (PC))).setCell ⟨w.heap.size + 1, 6, none⟩ (.int .i64 (0))).setCell ⟨w.heap.size + 1, 7, none⟩ (.int .i64 (0))).setCell ⟨w.heap.size + 1, 8, none⟩ (.int .i64 (0))).setCell ⟨w.heap.size + 1, 9, none⟩ (.int .i64 (0))).setCell ⟨w.heap.size + 1, 10, none⟩ (.int .i64 (0))).setCell ⟨w.heap.size + 1, 11, none⟩ (.int .i64 (PF))) (w.heap.size + 1) [.int .i64 (ag), .int .i64 (sq), .int .i64 (tm), .int .i64 (2), .int .i64 (PB), .int .i64 (PC), .int .i64 (0), .int .i64 (0), .int .i64 (0), .int .i64 (0), .int .i64 (0), .int .i64 (PF)] from ((((((((((((HR3.out.put 0 (.int .i64 (ag))).put 1 (.int .i64 (sq))).put 2 (.int .i64 (tm))).put 3 (.int .i64 (2))).put 4 (.int .i64 (PB))).put 5 (.int .i64 (PC))).put 6 (.int .i64 (0))).put 7 (.int .i64 (0))).put 8 (.int .i64 (0))).put 9 (.int .i64 (0))).put 10 (.int .i64 (0))).put 11 (.int .i64 (PF))))
    have HBZ := Lib.hid (show Below w.heap.size w ((((((((((((w3.setCell ⟨w.heap.size + 1, 0, none⟩ (.int .i64 (ag))).setCell ⟨w.heap.size + 1, 1, none⟩ (.int .i64 (sq))).setCell ⟨w.heap.size + 1, 2, none⟩ (.int .i64 (tm))).setCell ⟨w.heap.size + 1, 3, none⟩ (.int .i64 (2))).setCell ⟨w.heap.size + 1, 4, none⟩ (.int .i64 (PB))).setCell ⟨w.heap.size + 1, 5, none⟩ (.int .i64 (PC))).setCell ⟨w.heap.size + 1, 6, none⟩ (.int .i64 (0))).setCell ⟨w.heap.size + 1, 7, none⟩ (.int .i64 (0))).setCell ⟨w.heap.size + 1, 8, none⟩ (.int .i64 (0))).setCell ⟨w.heap.size + 1, 9, none⟩ (.int .i64 (0))).setCell ⟨w.heap.size + 1, 10, none⟩ (.int .i64 (0))).setCell ⟨w.heap.size + 1, 11, none⟩ (.int .i64 (PF))) from (((((((((((((HB2.out.trans (HB3.out.mono (by omega))).setCell (p := ⟨w.heap.size + 1, 0, none⟩) (Nat.le_succ _) (.int .i64 (ag))).setCell (p := ⟨w.heap.size + 1, 1, none⟩) (Nat.le_succ _) (.int .i64 (sq))).setCell (p := ⟨w.heap.size + 1, 2, none⟩) (Nat.le_succ _) (.int .i64 (tm))).setCell (p := ⟨w.heap.size + 1, 3, none⟩) (Nat.le_succ _) (.int .i64 (2))).setCell (p := ⟨w.heap.size + 1, 4, none⟩) (Nat.le_succ _) (.int .i64 (PB))).setCell (p := ⟨w.heap.size + 1, 5, none⟩) (Nat.le_succ _) (.int .i64 (PC))).setCell (p := ⟨w.heap.size + 1, 6, none⟩) (Nat.le_succ _) (.int .i64 (0))).setCell (p := ⟨w.heap.size + 1, 7, none⟩) (Nat.le_succ _) (.int .i64 (0))).setCell (p := ⟨w.heap.size + 1, 8, none⟩) (Nat.le_succ _) (.int .i64 (0))).setCell (p := ⟨w.heap.size + 1, 9, none⟩) (Nat.le_succ _) (.int .i64 (0))).setCell (p := ⟨w.heap.size + 1, 10, none⟩) (Nat.le_succ _) (.int .i64 (0))).setCell (p := ⟨w.heap.size + 1, 11, none⟩) (Nat.le_succ _) (.int .i64 (PF))))
    go_wp2_with fail
    obtain ⟨WF, hWF⟩ : ∃ WF, WF = ((((((((((((w3.setCell ⟨w.heap.size + 1, 0, none⟩ (.int .i64 (ag))).setCell ⟨w.heap.size + 1, 1, none⟩ (.int .i64 (sq))).setCell ⟨w.heap.size + 1, 2, none⟩ (.int .i64 (tm))).setCell ⟨w.heap.size + 1, 3, none⟩ (.int .i64 (2))).setCell ⟨w.heap.size + 1, 4, none⟩ (.int .i64 (PB))).setCell ⟨w.heap.size + 1, 5, none⟩ (.int .i64 (PC))).setCell ⟨w.heap.size + 1, 6, none⟩ (.int .i64 (0))).setCell ⟨w.heap.size + 1, 7, none⟩ (.int .i64 (0))).setCell ⟨w.heap.size + 1, 8, none⟩ (.int .i64 (0))).setCell ⟨w.heap.size + 1, 9, none⟩ (.int .i64 (0))).setCell ⟨w.heap.size + 1, 10, none⟩ (.int .i64 (0))).setCell ⟨w.heap.size + 1, 11, none⟩ (.int .i64 (PF))) := ⟨_, rfl⟩
    rw [← hWF] at HKZ HBZ ⊢
    clear u0 t0 r0 s0 u1 t1 r1 s1 u2 t2 r2 s2 u3 t3 r3 s3 u4 t4 r4 s4 u5 t5 r5 s5 u6 t6 r6 s6 u7 t7 r7 s7 u8 t8 r8 s8 u9 t9 r9 s9 u10 t10 r10 s10 u11 t11 r11 s11 hWF
    obtain ⟨g0, _⟩ := HKZ.out 0 (by simp)
    obtain ⟨g1, _⟩ := HKZ.out 1 (by simp)
    obtain ⟨g2, _⟩ := HKZ.out 2 (by simp)
    obtain ⟨g3, _⟩ := HKZ.out 3 (by simp)
    obtain ⟨g4, _⟩ := HKZ.out 4 (by simp)
    obtain ⟨g5, _⟩ := HKZ.out 5 (by simp)
    obtain ⟨g6, _⟩ := HKZ.out 6 (by simp)
    obtain ⟨g7, _⟩ := HKZ.out 7 (by simp)
    obtain ⟨g8, _⟩ := HKZ.out 8 (by simp)
    obtain ⟨g9, _⟩ := HKZ.out 9 (by simp)
    obtain ⟨g10, _⟩ := HKZ.out 10 (by simp)
    obtain ⟨g11, _⟩ := HKZ.out 11 (by simp)
    simp only [List.getElem_cons_zero, List.getElem_cons_succ] at g0 g1 g2 g3 g4 g5 g6 g7 g8 g9 g10 g11
    rw [HEV.out]
    exact bodyPost_ret (v := .agg #[.int .i64 (ag), .int .i64 (sq), .int .i64 (tm), .int .i64 (2), .int .i64 (PB), .int .i64 (PC), .int .i64 (0), .int .i64 (0), .int .i64 (0), .int .i64 (0), .int .i64 (0), .int .i64 (PF)]) (by simp [results, Tryz.results37, go_sem, g0, g1, g2, g3, g4, g5, g6, g7, g8, g9, g10, g11]) rfl ⟨rfl, HBZ.out⟩
  · skip
    have HEV := Lib.hid (show ME = ⟨ag, sq, tm, 3, PB, PC, PD8, 0, 0, 0, 0, PF⟩ from by rw [HME.out]; rfl)
    have HKZ := Lib.hid (show CellsAt (((((((((((((w3.setCell ⟨E, 6, none⟩ (.int .i64 (PD8))).setCell ⟨w.heap.size + 1, 0, none⟩ (.int .i64 (ag))).setCell ⟨w.heap.size + 1, 1, none⟩ (.int .i64 (sq))).setCell ⟨w.heap.size + 1, 2, none⟩ (.int .i64 (tm))).setCell ⟨w.heap.size + 1, 3, none⟩ (.int .i64 (3))).setCell ⟨w.heap.size + 1, 4, none⟩ (.int .i64 (PB))).setCell ⟨w.heap.size + 1, 5, none⟩ (.int .i64 (PC))).setCell ⟨w.heap.size + 1, 6, none⟩ (.int .i64 (PD8))).setCell ⟨w.heap.size + 1, 7, none⟩ (.int .i64 (0))).setCell ⟨w.heap.size + 1, 8, none⟩ (.int .i64 (0))).setCell ⟨w.heap.size + 1, 9, none⟩ (.int .i64 (0))).setCell ⟨w.heap.size + 1, 10, none⟩ (.int .i64 (0))).setCell ⟨w.heap.size + 1, 11, none⟩ (.int .i64 (PF))) (w.heap.size + 1) [.int .i64 (ag), .int .i64 (sq), .int .i64 (tm), .int .i64 (3), .int .i64 (PB), .int .i64 (PC), .int .i64 (PD8), .int .i64 (0), .int .i64 (0), .int .i64 (0), .int .i64 (0), .int .i64 (PF)] from (((((((((((((HR3.out.far (show E ≠ w.heap.size + 1 by omega)).put 0 (.int .i64 (ag))).put 1 (.int .i64 (sq))).put 2 (.int .i64 (tm))).put 3 (.int .i64 (3))).put 4 (.int .i64 (PB))).put 5 (.int .i64 (PC))).put 6 (.int .i64 (PD8))).put 7 (.int .i64 (0))).put 8 (.int .i64 (0))).put 9 (.int .i64 (0))).put 10 (.int .i64 (0))).put 11 (.int .i64 (PF))))
    have HBZ := Lib.hid (show Below w.heap.size w (((((((((((((w3.setCell ⟨E, 6, none⟩ (.int .i64 (PD8))).setCell ⟨w.heap.size + 1, 0, none⟩ (.int .i64 (ag))).setCell ⟨w.heap.size + 1, 1, none⟩ (.int .i64 (sq))).setCell ⟨w.heap.size + 1, 2, none⟩ (.int .i64 (tm))).setCell ⟨w.heap.size + 1, 3, none⟩ (.int .i64 (3))).setCell ⟨w.heap.size + 1, 4, none⟩ (.int .i64 (PB))).setCell ⟨w.heap.size + 1, 5, none⟩ (.int .i64 (PC))).setCell ⟨w.heap.size + 1, 6, none⟩ (.int .i64 (PD8))).setCell ⟨w.heap.size + 1, 7, none⟩ (.int .i64 (0))).setCell ⟨w.heap.size + 1, 8, none⟩ (.int .i64 (0))).setCell ⟨w.heap.size + 1, 9, none⟩ (.int .i64 (0))).setCell ⟨w.heap.size + 1, 10, none⟩ (.int .i64 (0))).setCell ⟨w.heap.size + 1, 11, none⟩ (.int .i64 (PF))) from (((((((((((((HB2.out.trans ((HB3.out.setCell (p := ⟨E, 6, none⟩) hE (.int .i64 (PD8))).mono (by omega))).setCell (p := ⟨w.heap.size + 1, 0, none⟩) (Nat.le_succ _) (.int .i64 (ag))).setCell (p := ⟨w.heap.size + 1, 1, none⟩) (Nat.le_succ _) (.int .i64 (sq))).setCell (p := ⟨w.heap.size + 1, 2, none⟩) (Nat.le_succ _) (.int .i64 (tm))).setCell (p := ⟨w.heap.size + 1, 3, none⟩) (Nat.le_succ _) (.int .i64 (3))).setCell (p := ⟨w.heap.size + 1, 4, none⟩) (Nat.le_succ _) (.int .i64 (PB))).setCell (p := ⟨w.heap.size + 1, 5, none⟩) (Nat.le_succ _) (.int .i64 (PC))).setCell (p := ⟨w.heap.size + 1, 6, none⟩) (Nat.le_succ _) (.int .i64 (PD8))).setCell (p := ⟨w.heap.size + 1, 7, none⟩) (Nat.le_succ _) (.int .i64 (0))).setCell (p := ⟨w.heap.size + 1, 8, none⟩) (Nat.le_succ _) (.int .i64 (0))).setCell (p := ⟨w.heap.size + 1, 9, none⟩) (Nat.le_succ _) (.int .i64 (0))).setCell (p := ⟨w.heap.size + 1, 10, none⟩) (Nat.le_succ _) (.int .i64 (0))).setCell (p := ⟨w.heap.size + 1, 11, none⟩) (Nat.le_succ _) (.int .i64 (PF))))
    go_wp2_with (first | fail | (go_at_call 42; (with_reducible refine (HPD8.out _).mono ?_); rintro e z ⟨rfl, rfl⟩))
    obtain ⟨WF, hWF⟩ : ∃ WF, WF = (((((((((((((w3.setCell ⟨E, 6, none⟩ (.int .i64 (PD8))).setCell ⟨w.heap.size + 1, 0, none⟩ (.int .i64 (ag))).setCell ⟨w.heap.size + 1, 1, none⟩ (.int .i64 (sq))).setCell ⟨w.heap.size + 1, 2, none⟩ (.int .i64 (tm))).setCell ⟨w.heap.size + 1, 3, none⟩ (.int .i64 (3))).setCell ⟨w.heap.size + 1, 4, none⟩ (.int .i64 (PB))).setCell ⟨w.heap.size + 1, 5, none⟩ (.int .i64 (PC))).setCell ⟨w.heap.size + 1, 6, none⟩ (.int .i64 (PD8))).setCell ⟨w.heap.size + 1, 7, none⟩ (.int .i64 (0))).setCell ⟨w.heap.size + 1, 8, none⟩ (.int .i64 (0))).setCell ⟨w.heap.size + 1, 9, none⟩ (.int .i64 (0))).setCell ⟨w.heap.size + 1, 10, none⟩ (.int .i64 (0))).setCell ⟨w.heap.size + 1, 11, none⟩ (.int .i64 (PF))) := ⟨_, rfl⟩
    rw [← hWF] at HKZ HBZ ⊢
    clear u0 t0 r0 s0 u1 t1 r1 s1 u2 t2 r2 s2 u3 t3 r3 s3 u4 t4 r4 s4 u5 t5 r5 s5 u6 t6 r6 s6 u7 t7 r7 s7 u8 t8 r8 s8 u9 t9 r9 s9 u10 t10 r10 s10 u11 t11 r11 s11 hWF
    obtain ⟨g0, _⟩ := HKZ.out 0 (by simp)
    obtain ⟨g1, _⟩ := HKZ.out 1 (by simp)
    obtain ⟨g2, _⟩ := HKZ.out 2 (by simp)
    obtain ⟨g3, _⟩ := HKZ.out 3 (by simp)
    obtain ⟨g4, _⟩ := HKZ.out 4 (by simp)
    obtain ⟨g5, _⟩ := HKZ.out 5 (by simp)
    obtain ⟨g6, _⟩ := HKZ.out 6 (by simp)
    obtain ⟨g7, _⟩ := HKZ.out 7 (by simp)
    obtain ⟨g8, _⟩ := HKZ.out 8 (by simp)
    obtain ⟨g9, _⟩ := HKZ.out 9 (by simp)
    obtain ⟨g10, _⟩ := HKZ.out 10 (by simp)
    obtain ⟨g11, _⟩ := HKZ.out 11 (by simp)
    simp only [List.getElem_cons_zero, List.getElem_cons_succ] at g0 g1 g2 g3 g4 g5 g6 g7 g8 g9 g10 g11
    rw [HEV.out]
    exact bodyPost_ret (v := .agg #[.int .i64 (ag), .int .i64 (sq), .int .i64 (tm), .int .i64 (3), .int .i64 (PB), .int .i64 (PC), .int .i64 (PD8), .int .i64 (0), .int .i64 (0), .int .i64 (0), .int .i64 (0), .int .i64 (PF)]) (by simp [results, Tryz.results37, go_sem, g0, g1, g2, g3, g4, g5, g6, g7, g8, g9, g10, g11]) rfl ⟨rfl, HBZ.out⟩
  · skip
    have HEV := Lib.hid (show ME = ⟨ag, sq, tm, 4, PB, PC, PD8, 0, 0, 0, 0, PF⟩ from by rw [HME.out]; rfl)
    have HKZ := Lib.hid (show CellsAt (((((((((((((w3.setCell ⟨E, 6, none⟩ (.int .i64 (PD8))).setCell ⟨w.heap.size + 1, 0, none⟩ (.int .i64 (ag))).setCell ⟨w.heap.size + 1, 1, none⟩ (.int .i64 (sq))).setCell ⟨w.heap.size + 1, 2, none⟩ (.int .i64 (tm))).setCell ⟨w.heap.size + 1, 3, none⟩ (.int .i64 (4))).setCell ⟨w.heap.size + 1, 4, none⟩ (.int .i64 (PB))).setCell ⟨w.heap.size + 1, 5, none⟩ (.int .i64 (PC))).setCell ⟨w.heap.size + 1, 6, none⟩ (.int .i64 (PD8))).setCell ⟨w.heap.size + 1, 7, none⟩ (.int .i64 (0))).setCell ⟨w.heap.size + 1, 8, none⟩ (.int .i64 (0))).setCell ⟨w.heap.size + 1, 9, none⟩ (.int .i64 (0))).setCell ⟨w.heap.size + 1, 10, none⟩ (.int .i64 (0))).setCell ⟨w.heap.size + 1, 11, none⟩ (.int .i64 (PF))) (w.heap.size + 1) [.int .i64 (ag), .int .i64 (sq), .int .i64 (tm), .int .i64 (4), .int .i64 (PB), .int .i64 (PC), .int .i64 (PD8), .int .i64 (0), .int .i64 (0), .int .i64 (0), .int .i64 (0), .int .i64 (PF)] from (((((((((((((HR3.out.far (show E ≠ w.heap.size + 1 by omega)).put 0 (.int .i64 (ag))).put 1 (.int .i64 (sq))).put 2 (.int .i64 (tm))).put 3 (.int .i64 (4))).put 4 (.int .i64 (PB))).put 5 (.int .i64 (PC))).put 6 (.int .i64 (PD8))).put 7 (.int .i64 (0))).put 8 (.int .i64 (0))).put 9 (.int .i64 (0))).put 10 (.int .i64 (0))).put 11 (.int .i64 (PF))))
    have HBZ := Lib.hid (show Below w.heap.size w (((((((((((((w3.setCell ⟨E, 6, none⟩ (.int .i64 (PD8))).setCell ⟨w.heap.size + 1, 0, none⟩ (.int .i64 (ag))).setCell ⟨w.heap.size + 1, 1, none⟩ (.int .i64 (sq))).setCell ⟨w.heap.size + 1, 2, none⟩ (.int .i64 (tm))).setCell ⟨w.heap.size + 1, 3, none⟩ (.int .i64 (4))).setCell ⟨w.heap.size + 1, 4, none⟩ (.int .i64 (PB))).setCell ⟨w.heap.size + 1, 5, none⟩ (.int .i64 (PC))).setCell ⟨w.heap.size + 1, 6, none⟩ (.int .i64 (PD8))).setCell ⟨w.heap.size + 1, 7, none⟩ (.int .i64 (0))).setCell ⟨w.heap.size + 1, 8, none⟩ (.int .i64 (0))).setCell ⟨w.heap.size + 1, 9, none⟩ (.int .i64 (0))).setCell ⟨w.heap.size + 1, 10, none⟩ (.int .i64 (0))).setCell ⟨w.heap.size + 1, 11, none⟩ (.int .i64 (PF))) from (((((((((((((HB2.out.trans ((HB3.out.setCell (p := ⟨E, 6, none⟩) hE (.int .i64 (PD8))).mono (by omega))).setCell (p := ⟨w.heap.size + 1, 0, none⟩) (Nat.le_succ _) (.int .i64 (ag))).setCell (p := ⟨w.heap.size + 1, 1, none⟩) (Nat.le_succ _) (.int .i64 (sq))).setCell (p := ⟨w.heap.size + 1, 2, none⟩) (Nat.le_succ _) (.int .i64 (tm))).setCell (p := ⟨w.heap.size + 1, 3, none⟩) (Nat.le_succ _) (.int .i64 (4))).setCell (p := ⟨w.heap.size + 1, 4, none⟩) (Nat.le_succ _) (.int .i64 (PB))).setCell (p := ⟨w.heap.size + 1, 5, none⟩) (Nat.le_succ _) (.int .i64 (PC))).setCell (p := ⟨w.heap.size + 1, 6, none⟩) (Nat.le_succ _) (.int .i64 (PD8))).setCell (p := ⟨w.heap.size + 1, 7, none⟩) (Nat.le_succ _) (.int .i64 (0))).setCell (p := ⟨w.heap.size + 1, 8, none⟩) (Nat.le_succ _) (.int .i64 (0))).setCell (p := ⟨w.heap.size + 1, 9, none⟩) (Nat.le_succ _) (.int .i64 (0))).setCell (p := ⟨w.heap.size + 1, 10, none⟩) (Nat.le_succ _) (.int .i64 (0))).setCell (p := ⟨w.heap.size + 1, 11, none⟩) (Nat.le_succ _) (.int .i64 (PF))))
    go_wp2_with (first | fail | (go_at_call 42; (with_reducible refine (HPD8.out _).mono ?_); rintro e z ⟨rfl, rfl⟩))
    obtain ⟨WF, hWF⟩ : ∃ WF, WF = (((((((((((((w3.setCell ⟨E, 6, none⟩ (.int .i64 (PD8))).setCell ⟨w.heap.size + 1, 0, none⟩ (.int .i64 (ag))).setCell ⟨w.heap.size + 1, 1, none⟩ (.int .i64 (sq))).setCell ⟨w.heap.size + 1, 2, none⟩ (.int .i64 (tm))).setCell ⟨w.heap.size + 1, 3, none⟩ (.int .i64 (4))).setCell ⟨w.heap.size + 1, 4, none⟩ (.int .i64 (PB))).setCell ⟨w.heap.size + 1, 5, none⟩ (.int .i64 (PC))).setCell ⟨w.heap.size + 1, 6, none⟩ (.int .i64 (PD8))).setCell ⟨w.heap.size + 1, 7, none⟩ (.int .i64 (0))).setCell ⟨w.heap.size + 1, 8, none⟩ (.int .i64 (0))).setCell ⟨w.heap.size + 1, 9, none⟩ (.int .i64 (0))).setCell ⟨w.heap.size + 1, 10, none⟩ (.int .i64 (0))).setCell ⟨w.heap.size + 1, 11, none⟩ (.int .i64 (PF))) := ⟨_, rfl⟩
    rw [← hWF] at HKZ HBZ ⊢
    clear u0 t0 r0 s0 u1 t1 r1 s1 u2 t2 r2 s2 u3 t3 r3 s3 u4 t4 r4 s4 u5 t5 r5 s5 u6 t6 r6 s6 u7 t7 r7 s7 u8 t8 r8 s8 u9 t9 r9 s9 u10 t10 r10 s10 u11 t11 r11 s11 hWF
    obtain ⟨g0, _⟩ := HKZ.out 0 (by simp)
    obtain ⟨g1, _⟩ := HKZ.out 1 (by simp)
    obtain ⟨g2, _⟩ := HKZ.out 2 (by simp)
    obtain ⟨g3, _⟩ := HKZ.out 3 (by simp)
    obtain ⟨g4, _⟩ := HKZ.out 4 (by simp)
    obtain ⟨g5, _⟩ := HKZ.out 5 (by simp)
    obtain ⟨g6, _⟩ := HKZ.out 6 (by simp)
    obtain ⟨g7, _⟩ := HKZ.out 7 (by simp)
    obtain ⟨g8, _⟩ := HKZ.out 8 (by simp)
    obtain ⟨g9, _⟩ := HKZ.out 9 (by simp)
    obtain ⟨g10, _⟩ := HKZ.out 10 (by simp)
    obtain ⟨g11, _⟩ := HKZ.out 11 (by simp)
    simp only [List.getElem_cons_zero, List.getElem_cons_succ] at g0 g1 g2 g3 g4 g5 g6 g7 g8 g9 g10 g11
    rw [HEV.out]
    exact bodyPost_ret (v := .agg #[.int .i64 (ag), .int .i64 (sq), .int .i64 (tm), .int .i64 (4), .int .i64 (PB), .int .i64 (PC), .int .i64 (PD8), .int .i64 (0), .int .i64 (0), .int .i64 (0), .int .i64 (0), .int .i64 (PF)]) (by simp [results, Tryz.results37, go_sem, g0, g1, g2, g3, g4, g5, g6, g7, g8, g9, g10, g11]) rfl ⟨rfl, HBZ.out⟩
  · skip
    have HEV := Lib.hid (show ME = ⟨ag, sq, tm, 5, PB, PC, PD3, PE3, 0, 0, 0, PF⟩ from by rw [HME.out]; rfl)
    have HKZ := Lib.hid (show CellsAt ((((((((((((((w3.setCell ⟨E, 6, none⟩ (.int .i64 (PD3))).setCell ⟨E, 7, none⟩ (.int .i64 (PE3))).setCell ⟨w.heap.size + 1, 0, none⟩ (.int .i64 (ag))).setCell ⟨w.heap.size + 1, 1, none⟩ (.int .i64 (sq))).setCell ⟨w.heap.size + 1, 2, none⟩ (.int .i64 (tm))).setCell ⟨w.heap.size + 1, 3, none⟩ (.int .i64 (5))).setCell ⟨w.heap.size + 1, 4, none⟩ (.int .i64 (PB))).setCell ⟨w.heap.size + 1, 5, none⟩ (.int .i64 (PC))).setCell ⟨w.heap.size + 1, 6, none⟩ (.int .i64 (PD3))).setCell ⟨w.heap.size + 1, 7, none⟩ (.int .i64 (PE3))).setCell ⟨w.heap.size + 1, 8, none⟩ (.int .i64 (0))).setCell ⟨w.heap.size + 1, 9, none⟩ (.int .i64 (0))).setCell ⟨w.heap.size + 1, 10, none⟩ (.int .i64 (0))).setCell ⟨w.heap.size + 1, 11, none⟩ (.int .i64 (PF))) (w.heap.size + 1) [.int .i64 (ag), .int .i64 (sq), .int .i64 (tm), .int .i64 (5), .int .i64 (PB), .int .i64 (PC), .int .i64 (PD3), .int .i64 (PE3), .int .i64 (0), .int .i64 (0), .int .i64 (0), .int .i64 (PF)] from ((((((((((((((HR3.out.far (show E ≠ w.heap.size + 1 by omega)).far (show E ≠ w.heap.size + 1 by omega)).put 0 (.int .i64 (ag))).put 1 (.int .i64 (sq))).put 2 (.int .i64 (tm))).put 3 (.int .i64 (5))).put 4 (.int .i64 (PB))).put 5 (.int .i64 (PC))).put 6 (.int .i64 (PD3))).put 7 (.int .i64 (PE3))).put 8 (.int .i64 (0))).put 9 (.int .i64 (0))).put 10 (.int .i64 (0))).put 11 (.int .i64 (PF))))
    have HBZ := Lib.hid (show Below w.heap.size w ((((((((((((((w3.setCell ⟨E, 6, none⟩ (.int .i64 (PD3))).setCell ⟨E, 7, none⟩ (.int .i64 (PE3))).setCell ⟨w.heap.size + 1, 0, none⟩ (.int .i64 (ag))).setCell ⟨w.heap.size + 1, 1, none⟩ (.int .i64 (sq))).setCell ⟨w.heap.size + 1, 2, none⟩ (.int .i64 (tm))).setCell ⟨w.heap.size + 1, 3, none⟩ (.int .i64 (5))).setCell ⟨w.heap.size + 1, 4, none⟩ (.int .i64 (PB))).setCell ⟨w.heap.size + 1, 5, none⟩ (.int .i64 (PC))).setCell ⟨w.heap.size + 1, 6, none⟩ (.int .i64 (PD3))).setCell ⟨w.heap.size + 1, 7, none⟩ (.int .i64 (PE3))).setCell ⟨w.heap.size + 1, 8, none⟩ (.int .i64 (0))).setCell ⟨w.heap.size + 1, 9, none⟩ (.int .i64 (0))).setCell ⟨w.heap.size + 1, 10, none⟩ (.int .i64 (0))).setCell ⟨w.heap.size + 1, 11, none⟩ (.int .i64 (PF))) from (((((((((((((HB2.out.trans (((HB3.out.setCell (p := ⟨E, 6, none⟩) hE (.int .i64 (PD3))).setCell (p := ⟨E, 7, none⟩) hE (.int .i64 (PE3))).mono (by omega))).setCell (p := ⟨w.heap.size + 1, 0, none⟩) (Nat.le_succ _) (.int .i64 (ag))).setCell (p := ⟨w.heap.size + 1, 1, none⟩) (Nat.le_succ _) (.int .i64 (sq))).setCell (p := ⟨w.heap.size + 1, 2, none⟩) (Nat.le_succ _) (.int .i64 (tm))).setCell (p := ⟨w.heap.size + 1, 3, none⟩) (Nat.le_succ _) (.int .i64 (5))).setCell (p := ⟨w.heap.size + 1, 4, none⟩) (Nat.le_succ _) (.int .i64 (PB))).setCell (p := ⟨w.heap.size + 1, 5, none⟩) (Nat.le_succ _) (.int .i64 (PC))).setCell (p := ⟨w.heap.size + 1, 6, none⟩) (Nat.le_succ _) (.int .i64 (PD3))).setCell (p := ⟨w.heap.size + 1, 7, none⟩) (Nat.le_succ _) (.int .i64 (PE3))).setCell (p := ⟨w.heap.size + 1, 8, none⟩) (Nat.le_succ _) (.int .i64 (0))).setCell (p := ⟨w.heap.size + 1, 9, none⟩) (Nat.le_succ _) (.int .i64 (0))).setCell (p := ⟨w.heap.size + 1, 10, none⟩) (Nat.le_succ _) (.int .i64 (0))).setCell (p := ⟨w.heap.size + 1, 11, none⟩) (Nat.le_succ _) (.int .i64 (PF))))
    go_wp2_with (first | fail | (go_at_call 42; (with_reducible refine (HPD3.out _).mono ?_); rintro e z ⟨rfl, rfl⟩) | (go_at_call 42; (with_reducible refine (HPE3.out _).mono ?_); rintro e z ⟨rfl, rfl⟩))
    obtain ⟨WF, hWF⟩ : ∃ WF, WF = ((((((((((((((w3.setCell ⟨E, 6, none⟩ (.int .i64 (PD3))).setCell ⟨E, 7, none⟩ (.int .i64 (PE3))).setCell ⟨w.heap.size + 1, 0, none⟩ (.int .i64 (ag))).setCell ⟨w.heap.size + 1, 1, none⟩ (.int .i64 (sq))).setCell ⟨w.heap.size + 1, 2, none⟩ (.int .i64 (tm))).setCell ⟨w.heap.size + 1, 3, none⟩ (.int .i64 (5))).setCell ⟨w.heap.size + 1, 4, none⟩ (.int .i64 (PB))).setCell ⟨w.heap.size + 1, 5, none⟩ (.int .i64 (PC))).setCell ⟨w.heap.size + 1, 6, none⟩ (.int .i64 (PD3))).setCell ⟨w.heap.size + 1, 7, none⟩ (.int .i64 (PE3))).setCell ⟨w.heap.size + 1, 8, none⟩ (.int .i64 (0))).setCell ⟨w.heap.size + 1, 9, none⟩ (.int .i64 (0))).setCell ⟨w.heap.size + 1, 10, none⟩ (.int .i64 (0))).setCell ⟨w.heap.size + 1, 11, none⟩ (.int .i64 (PF))) := ⟨_, rfl⟩
    rw [← hWF] at HKZ HBZ ⊢
    clear u0 t0 r0 s0 u1 t1 r1 s1 u2 t2 r2 s2 u3 t3 r3 s3 u4 t4 r4 s4 u5 t5 r5 s5 u6 t6 r6 s6 u7 t7 r7 s7 u8 t8 r8 s8 u9 t9 r9 s9 u10 t10 r10 s10 u11 t11 r11 s11 hWF
    obtain ⟨g0, _⟩ := HKZ.out 0 (by simp)
    obtain ⟨g1, _⟩ := HKZ.out 1 (by simp)
    obtain ⟨g2, _⟩ := HKZ.out 2 (by simp)
    obtain ⟨g3, _⟩ := HKZ.out 3 (by simp)
    obtain ⟨g4, _⟩ := HKZ.out 4 (by simp)
    obtain ⟨g5, _⟩ := HKZ.out 5 (by simp)
    obtain ⟨g6, _⟩ := HKZ.out 6 (by simp)
    obtain ⟨g7, _⟩ := HKZ.out 7 (by simp)
    obtain ⟨g8, _⟩ := HKZ.out 8 (by simp)
    obtain ⟨g9, _⟩ := HKZ.out 9 (by simp)
    obtain ⟨g10, _⟩ := HKZ.out 10 (by simp)
    obtain ⟨g11, _⟩ := HKZ.out 11 (by simp)
    simp only [List.getElem_cons_zero, List.getElem_cons_succ] at g0 g1 g2 g3 g4 g5 g6 g7 g8 g9 g10 g11
    rw [HEV.out]
    exact bodyPost_ret (v := .agg #[.int .i64 (ag), .int .i64 (sq), .int .i64 (tm), .int .i64 (5), .int .i64 (PB), .int .i64 (PC), .int .i64 (PD3), .int .i64 (PE3), .int .i64 (0), .int .i64 (0), .int .i64 (0), .int .i64 (PF)]) (by simp [results, Tryz.results37, go_sem, g0, g1, g2, g3, g4, g5, g6, g7, g8, g9, g10, g11]) rfl ⟨rfl, HBZ.out⟩
  · skip
    have HEV := Lib.hid (show ME = ⟨ag, sq, tm, 6, PB, PC, PD3, PE3, 0, 0, 0, PF⟩ from by rw [HME.out]; rfl)
    have HKZ := Lib.hid (show CellsAt ((((((((((((((w3.setCell ⟨E, 6, none⟩ (.int .i64 (PD3))).setCell ⟨E, 7, none⟩ (.int .i64 (PE3))).setCell ⟨w.heap.size + 1, 0, none⟩ (.int .i64 (ag))).setCell ⟨w.heap.size + 1, 1, none⟩ (.int .i64 (sq))).setCell ⟨w.heap.size + 1, 2, none⟩ (.int .i64 (tm))).setCell ⟨w.heap.size + 1, 3, none⟩ (.int .i64 (6))).setCell ⟨w.heap.size + 1, 4, none⟩ (.int .i64 (PB))).setCell ⟨w.heap.size + 1, 5, none⟩ (.int .i64 (PC))).setCell ⟨w.heap.size + 1, 6, none⟩ (.int .i64 (PD3))).setCell ⟨w.heap.size + 1, 7, none⟩ (.int .i64 (PE3))).setCell ⟨w.heap.size + 1, 8, none⟩ (.int .i64 (0))).setCell ⟨w.heap.size + 1, 9, none⟩ (.int .i64 (0))).setCell ⟨w.heap.size + 1, 10, none⟩ (.int .i64 (0))).setCell ⟨w.heap.size + 1, 11, none⟩ (.int .i64 (PF))) (w.heap.size + 1) [.int .i64 (ag), .int .i64 (sq), .int .i64 (tm), .int .i64 (6), .int .i64 (PB), .int .i64 (PC), .int .i64 (PD3), .int .i64 (PE3), .int .i64 (0), .int .i64 (0), .int .i64 (0), .int .i64 (PF)] from ((((((((((((((HR3.out.far (show E ≠ w.heap.size + 1 by omega)).far (show E ≠ w.heap.size + 1 by omega)).put 0 (.int .i64 (ag))).put 1 (.int .i64 (sq))).put 2 (.int .i64 (tm))).put 3 (.int .i64 (6))).put 4 (.int .i64 (PB))).put 5 (.int .i64 (PC))).put 6 (.int .i64 (PD3))).put 7 (.int .i64 (PE3))).put 8 (.int .i64 (0))).put 9 (.int .i64 (0))).put 10 (.int .i64 (0))).put 11 (.int .i64 (PF))))
    have HBZ := Lib.hid (show Below w.heap.size w ((((((((((((((w3.setCell ⟨E, 6, none⟩ (.int .i64 (PD3))).setCell ⟨E, 7, none⟩ (.int .i64 (PE3))).setCell ⟨w.heap.size + 1, 0, none⟩ (.int .i64 (ag))).setCell ⟨w.heap.size + 1, 1, none⟩ (.int .i64 (sq))).setCell ⟨w.heap.size + 1, 2, none⟩ (.int .i64 (tm))).setCell ⟨w.heap.size + 1, 3, none⟩ (.int .i64 (6))).setCell ⟨w.heap.size + 1, 4, none⟩ (.int .i64 (PB))).setCell ⟨w.heap.size + 1, 5, none⟩ (.int .i64 (PC))).setCell ⟨w.heap.size + 1, 6, none⟩ (.int .i64 (PD3))).setCell ⟨w.heap.size + 1, 7, none⟩ (.int .i64 (PE3))).setCell ⟨w.heap.size + 1, 8, none⟩ (.int .i64 (0))).setCell ⟨w.heap.size + 1, 9, none⟩ (.int .i64 (0))).setCell ⟨w.heap.size + 1, 10, none⟩ (.int .i64 (0))).setCell ⟨w.heap.size + 1, 11, none⟩ (.int .i64 (PF))) from (((((((((((((HB2.out.trans (((HB3.out.setCell (p := ⟨E, 6, none⟩) hE (.int .i64 (PD3))).setCell (p := ⟨E, 7, none⟩) hE (.int .i64 (PE3))).mono (by omega))).setCell (p := ⟨w.heap.size + 1, 0, none⟩) (Nat.le_succ _) (.int .i64 (ag))).setCell (p := ⟨w.heap.size + 1, 1, none⟩) (Nat.le_succ _) (.int .i64 (sq))).setCell (p := ⟨w.heap.size + 1, 2, none⟩) (Nat.le_succ _) (.int .i64 (tm))).setCell (p := ⟨w.heap.size + 1, 3, none⟩) (Nat.le_succ _) (.int .i64 (6))).setCell (p := ⟨w.heap.size + 1, 4, none⟩) (Nat.le_succ _) (.int .i64 (PB))).setCell (p := ⟨w.heap.size + 1, 5, none⟩) (Nat.le_succ _) (.int .i64 (PC))).setCell (p := ⟨w.heap.size + 1, 6, none⟩) (Nat.le_succ _) (.int .i64 (PD3))).setCell (p := ⟨w.heap.size + 1, 7, none⟩) (Nat.le_succ _) (.int .i64 (PE3))).setCell (p := ⟨w.heap.size + 1, 8, none⟩) (Nat.le_succ _) (.int .i64 (0))).setCell (p := ⟨w.heap.size + 1, 9, none⟩) (Nat.le_succ _) (.int .i64 (0))).setCell (p := ⟨w.heap.size + 1, 10, none⟩) (Nat.le_succ _) (.int .i64 (0))).setCell (p := ⟨w.heap.size + 1, 11, none⟩) (Nat.le_succ _) (.int .i64 (PF))))
    go_wp2_with (first | fail | (go_at_call 42; (with_reducible refine (HPD3.out _).mono ?_); rintro e z ⟨rfl, rfl⟩) | (go_at_call 42; (with_reducible refine (HPE3.out _).mono ?_); rintro e z ⟨rfl, rfl⟩))
    obtain ⟨WF, hWF⟩ : ∃ WF, WF = ((((((((((((((w3.setCell ⟨E, 6, none⟩ (.int .i64 (PD3))).setCell ⟨E, 7, none⟩ (.int .i64 (PE3))).setCell ⟨w.heap.size + 1, 0, none⟩ (.int .i64 (ag))).setCell ⟨w.heap.size + 1, 1, none⟩ (.int .i64 (sq))).setCell ⟨w.heap.size + 1, 2, none⟩ (.int .i64 (tm))).setCell ⟨w.heap.size + 1, 3, none⟩ (.int .i64 (6))).setCell ⟨w.heap.size + 1, 4, none⟩ (.int .i64 (PB))).setCell ⟨w.heap.size + 1, 5, none⟩ (.int .i64 (PC))).setCell ⟨w.heap.size + 1, 6, none⟩ (.int .i64 (PD3))).setCell ⟨w.heap.size + 1, 7, none⟩ (.int .i64 (PE3))).setCell ⟨w.heap.size + 1, 8, none⟩ (.int .i64 (0))).setCell ⟨w.heap.size + 1, 9, none⟩ (.int .i64 (0))).setCell ⟨w.heap.size + 1, 10, none⟩ (.int .i64 (0))).setCell ⟨w.heap.size + 1, 11, none⟩ (.int .i64 (PF))) := ⟨_, rfl⟩
    rw [← hWF] at HKZ HBZ ⊢
    clear u0 t0 r0 s0 u1 t1 r1 s1 u2 t2 r2 s2 u3 t3 r3 s3 u4 t4 r4 s4 u5 t5 r5 s5 u6 t6 r6 s6 u7 t7 r7 s7 u8 t8 r8 s8 u9 t9 r9 s9 u10 t10 r10 s10 u11 t11 r11 s11 hWF
    obtain ⟨g0, _⟩ := HKZ.out 0 (by simp)
    obtain ⟨g1, _⟩ := HKZ.out 1 (by simp)
    obtain ⟨g2, _⟩ := HKZ.out 2 (by simp)
    obtain ⟨g3, _⟩ := HKZ.out 3 (by simp)
    obtain ⟨g4, _⟩ := HKZ.out 4 (by simp)
    obtain ⟨g5, _⟩ := HKZ.out 5 (by simp)
    obtain ⟨g6, _⟩ := HKZ.out 6 (by simp)
    obtain ⟨g7, _⟩ := HKZ.out 7 (by simp)
    obtain ⟨g8, _⟩ := HKZ.out 8 (by simp)
    obtain ⟨g9, _⟩ := HKZ.out 9 (by simp)
    obtain ⟨g10, _⟩ := HKZ.out 10 (by simp)
    obtain ⟨g11, _⟩ := HKZ.out 11 (by simp)
    simp only [List.getElem_cons_zero, List.getElem_cons_succ] at g0 g1 g2 g3 g4 g5 g6 g7 g8 g9 g10 g11
    rw [HEV.out]
    exact bodyPost_ret (v := .agg #[.int .i64 (ag), .int .i64 (sq), .int .i64 (tm), .int .i64 (6), .int .i64 (PB), .int .i64 (PC), .int .i64 (PD3), .int .i64 (PE3), .int .i64 (0), .int .i64 (0), .int .i64 (0), .int .i64 (PF)]) (by simp [results, Tryz.results37, go_sem, g0, g1, g2, g3, g4, g5, g6, g7, g8, g9, g10, g11]) rfl ⟨rfl, HBZ.out⟩
  · skip
    have HEV := Lib.hid (show ME = ⟨ag, sq, tm, 7, PB, PC, PD10, 0, 0, 0, 0, PF⟩ from by rw [HME.out]; rfl)
    have HKZ := Lib.hid (show CellsAt (((((((((((((w3.setCell ⟨E, 6, none⟩ (.int .i64 (PD10))).setCell ⟨w.heap.size + 1, 0, none⟩ (.int .i64 (ag))).setCell ⟨w.heap.size + 1, 1, none⟩ (.int .i64 (sq))).setCell ⟨w.heap.size + 1, 2, none⟩ (.int .i64 (tm))).setCell ⟨w.heap.size + 1, 3, none⟩ (.int .i64 (7))).setCell ⟨w.heap.size + 1, 4, none⟩ (.int .i64 (PB))).setCell ⟨w.heap.size + 1, 5, none⟩ (.int .i64 (PC))).setCell ⟨w.heap.size + 1, 6, none⟩ (.int .i64 (PD10))).setCell ⟨w.heap.size + 1, 7, none⟩ (.int .i64 (0))).setCell ⟨w.heap.size + 1, 8, none⟩ (.int .i64 (0))).setCell ⟨w.heap.size + 1, 9, none⟩ (.int .i64 (0))).setCell ⟨w.heap.size + 1, 10, none⟩ (.int .i64 (0))).setCell ⟨w.heap.size + 1, 11, none⟩ (.int .i64 (PF))) (w.heap.size + 1) [.int .i64 (ag), .int .i64 (sq), .int .i64 (tm), .int .i64 (7), .int .i64 (PB), .int .i64 (PC), .int .i64 (PD10), .int .i64 (0), .int .i64 (0), .int .i64 (0), .int .i64 (0), .int .i64 (PF)] from (((((((((((((HR3.out.far (show E ≠ w.heap.size + 1 by omega)).put 0 (.int .i64 (ag))).put 1 (.int .i64 (sq))).put 2 (.int .i64 (tm))).put 3 (.int .i64 (7))).put 4 (.int .i64 (PB))).put 5 (.int .i64 (PC))).put 6 (.int .i64 (PD10))).put 7 (.int .i64 (0))).put 8 (.int .i64 (0))).put 9 (.int .i64 (0))).put 10 (.int .i64 (0))).put 11 (.int .i64 (PF))))
    have HBZ := Lib.hid (show Below w.heap.size w (((((((((((((w3.setCell ⟨E, 6, none⟩ (.int .i64 (PD10))).setCell ⟨w.heap.size + 1, 0, none⟩ (.int .i64 (ag))).setCell ⟨w.heap.size + 1, 1, none⟩ (.int .i64 (sq))).setCell ⟨w.heap.size + 1, 2, none⟩ (.int .i64 (tm))).setCell ⟨w.heap.size + 1, 3, none⟩ (.int .i64 (7))).setCell ⟨w.heap.size + 1, 4, none⟩ (.int .i64 (PB))).setCell ⟨w.heap.size + 1, 5, none⟩ (.int .i64 (PC))).setCell ⟨w.heap.size + 1, 6, none⟩ (.int .i64 (PD10))).setCell ⟨w.heap.size + 1, 7, none⟩ (.int .i64 (0))).setCell ⟨w.heap.size + 1, 8, none⟩ (.int .i64 (0))).setCell ⟨w.heap.size + 1, 9, none⟩ (.int .i64 (0))).setCell ⟨w.heap.size + 1, 10, none⟩ (.int .i64 (0))).setCell ⟨w.heap.size + 1, 11, none⟩ (.int .i64 (PF))) from (((((((((((((HB2.out.trans ((HB3.out.setCell (p := ⟨E, 6, none⟩) hE (.int .i64 (PD10))).mono (by omega))).setCell (p := ⟨w.heap.size + 1, 0, none⟩) (Nat.le_succ _) (.int .i64 (ag))).setCell (p := ⟨w.heap.size + 1, 1, none⟩) (Nat.le_succ _) (.int .i64 (sq))).setCell (p := ⟨w.heap.size + 1, 2, none⟩) (Nat.le_succ _) (.int .i64 (tm))).setCell (p := ⟨w.heap.size + 1, 3, none⟩) (Nat.le_succ _) (.int .i64 (7))).setCell (p := ⟨w.heap.size + 1, 4, none⟩) (Nat.le_succ _) (.int .i64 (PB))).setCell (p := ⟨w.heap.size + 1, 5, none⟩) (Nat.le_succ _) (.int .i64 (PC))).setCell (p := ⟨w.heap.size + 1, 6, none⟩) (Nat.le_succ _) (.int .i64 (PD10))).setCell (p := ⟨w.heap.size + 1, 7, none⟩) (Nat.le_succ _) (.int .i64 (0))).setCell (p := ⟨w.heap.size + 1, 8, none⟩) (Nat.le_succ _) (.int .i64 (0))).setCell (p := ⟨w.heap.size + 1, 9, none⟩) (Nat.le_succ _) (.int .i64 (0))).setCell (p := ⟨w.heap.size + 1, 10, none⟩) (Nat.le_succ _) (.int .i64 (0))).setCell (p := ⟨w.heap.size + 1, 11, none⟩) (Nat.le_succ _) (.int .i64 (PF))))
    go_wp2_with (first | fail | (go_at_call 42; (with_reducible refine (HPD10.out _).mono ?_); rintro e z ⟨rfl, rfl⟩))
    obtain ⟨WF, hWF⟩ : ∃ WF, WF = (((((((((((((w3.setCell ⟨E, 6, none⟩ (.int .i64 (PD10))).setCell ⟨w.heap.size + 1, 0, none⟩ (.int .i64 (ag))).setCell ⟨w.heap.size + 1, 1, none⟩ (.int .i64 (sq))).setCell ⟨w.heap.size + 1, 2, none⟩ (.int .i64 (tm))).setCell ⟨w.heap.size + 1, 3, none⟩ (.int .i64 (7))).setCell ⟨w.heap.size + 1, 4, none⟩ (.int .i64 (PB))).setCell ⟨w.heap.size + 1, 5, none⟩ (.int .i64 (PC))).setCell ⟨w.heap.size + 1, 6, none⟩ (.int .i64 (PD10))).setCell ⟨w.heap.size + 1, 7, none⟩ (.int .i64 (0))).setCell ⟨w.heap.size + 1, 8, none⟩ (.int .i64 (0))).setCell ⟨w.heap.size + 1, 9, none⟩ (.int .i64 (0))).setCell ⟨w.heap.size + 1, 10, none⟩ (.int .i64 (0))).setCell ⟨w.heap.size + 1, 11, none⟩ (.int .i64 (PF))) := ⟨_, rfl⟩
    rw [← hWF] at HKZ HBZ ⊢
    clear u0 t0 r0 s0 u1 t1 r1 s1 u2 t2 r2 s2 u3 t3 r3 s3 u4 t4 r4 s4 u5 t5 r5 s5 u6 t6 r6 s6 u7 t7 r7 s7 u8 t8 r8 s8 u9 t9 r9 s9 u10 t10 r10 s10 u11 t11 r11 s11 hWF
    obtain ⟨g0, _⟩ := HKZ.out 0 (by simp)
    obtain ⟨g1, _⟩ := HKZ.out 1 (by simp)
    obtain ⟨g2, _⟩ := HKZ.out 2 (by simp)
    obtain ⟨g3, _⟩ := HKZ.out 3 (by simp)
    obtain ⟨g4, _⟩ := HKZ.out 4 (by simp)
    obtain ⟨g5, _⟩ := HKZ.out 5 (by simp)
    obtain ⟨g6, _⟩ := HKZ.out 6 (by simp)
    obtain ⟨g7, _⟩ := HKZ.out 7 (by simp)
    obtain ⟨g8, _⟩ := HKZ.out 8 (by simp)
    obtain ⟨g9, _⟩ := HKZ.out 9 (by simp)
    obtain ⟨g10, _⟩ := HKZ.out 10 (by simp)
    obtain ⟨g11, _⟩ := HKZ.out 11 (by simp)
    simp only [List.getElem_cons_zero, List.getElem_cons_succ] at g0 g1 g2 g3 g4 g5 g6 g7 g8 g9 g10 g11
    rw [HEV.out]
    exact bodyPost_ret (v := .agg #[.int .i64 (ag), .int .i64 (sq), .int .i64 (tm), .int .i64 (7), .int .i64 (PB), .int .i64 (PC), .int .i64 (PD10), .int .i64 (0), .int .i64 (0), .int .i64 (0), .int .i64 (0), .int .i64 (PF)]) (by simp [results, Tryz.results37, go_sem, g0, g1, g2, g3, g4, g5, g6, g7, g8, g9, g10, g11]) rfl ⟨rfl, HBZ.out⟩
end Go.Proofs.YtnpfhcnjkekhbaaGreatDoor

namespace Go.Proofs.YtnpfhcnjkekhbaaGreatDoor
open Go Go.Proofs Go.RowKit Go.Lib Go.Sort
def NewB (w w' : World) : Prop := Below w.heap.size w w'
theorem NewB.below {w w' : World} (h : NewB w w') : Below w.heap.size w w' := h
theorem newB0 (w : World) : NewB w { w with drawn := w.drawn + 1 } := Grew.below (grew0 w)
def K6 : RowK S6 where
 n := 6
 bytes := 48
 et := 61
 st := 27
 zero := .agg #[.int .i64 0, .int .i64 0, .int .i64 0, .int .i64 0, .int .i64 0, .int .i64 0]
 cs := S6.cells
 len := fun _ => rfl
 one := fun x u hu => by
  simp [S6.cells] at hu
  rcases hu with rfl | rfl | rfl | rfl | rfl | rfl <;> rfl
 pos := by decide
 bb := by decide
 und := by kernel_rfl
 elem := by kernel_rfl
 info := by kernel_rfl
 zs := rfl
theorem at_s6 (g o n c k : Nat) (hk : k < n) (w : World) : (Instr.indexAt 27 (.slice (some ⟨g, o, none⟩) n c) (.int .i64 (k : Int))).run Tryz.prog w = .ok (.pointer (some ⟨g, o + 6 * k, none⟩)) w := K6.at_ g o n c k hk w
theorem RL.s6 {W : World} {ad : Option Addr} {l : List S6} (h : RL K6 W ad l) (k : Nat) (hk : k < l.length) : ∃ b o, ad = some ⟨b, o, none⟩ ∧ b < W.heap.size ∧ ∀ W', Below W.heap.size W W' →
 W'.cell? ⟨b, o + 6 * k, none⟩ = some (.int .i64 l[k].a) ∧ W'.cell? ⟨b, o + 6 * k + 1, none⟩ = some (.int .i64 l[k].b) ∧ W'.cell? ⟨b, o + 6 * k + 2, none⟩ = some (.int .i64 l[k].c) ∧ W'.cell? ⟨b, o + 6 * k + 3, none⟩ = some (.int .i64 l[k].d) ∧ W'.cell? ⟨b, o + 6 * k + 4, none⟩ = some (.int .i64 l[k].e) ∧ W'.cell? ⟨b, o + 6 * k + 5, none⟩ = some (.int .i64 l[k].f) := by
 obtain ⟨b, o, h1, h2, h3⟩ := h.at_ k hk
 refine ⟨b, o, h1, h2, fun W' hb => ?_⟩
 have := h3 W' hb
 exact ⟨this 0 (by decide), this 1 (by decide), this 2 (by decide), this 3 (by decide), this 4 (by decide), this 5 (by decide)⟩
def EsPost (w : World) (l : List Ev) (e : Ending) (w' : World) : Prop := ∃ ad c, e = .returned (.slice ad l.length c) ∧ l.length ≤ c ∧ (ad = none → c = 0) ∧ RN KE w' w.heap.size ad l ∧ Below w.heap.size w w'
theorem Own.es9 {w W : World} {n c : Nat} {ad : Option Addr} {l : List Ev} (hb : Below w.heap.size w W) (h : Own KE W w.heap.size (.slice ad n c) l) : EsPost w l (.returned (.slice ad n c)) W := by
 obtain ⟨ad2, c2, e, hc, hr⟩ := h.rn
 injection e with e1 e2 e3
 subst e1 e2 e3
 refine ⟨ad, c, rfl, hc, fun hn => ?_, hr, hb⟩
 subst hn
 rcases h.2 with ⟨hv, _⟩ | ⟨g, cap, cur, hv, _⟩
 · injection hv
 · injection hv with e1; cases e1
theorem streamR9_any (ag : Int) (ad : Option Addr) (c : Nat) (l : List S6) (h0 : -9223372036854775808 ≤ ag) (h1 : ag ≤ 9223372036854775807) (hl : l.length ≤ maxLen) (hx : ∀ y ∈ l, y.fit) (w : World) (hI : RL K6 w ad l) :
 Calls Tryz.prog 27 #[.int .i64 ag, .slice ad l.length c] w (EsPost w (strL ag l)) := by
 unfold maxLen at hl
 have HC := Lib.hid (fun k hk => hI.s6 k hk)
 have HXF := Lib.hid hx
 have HPA := Lib.hid (fun W => pickR9_any ag 6 h0 h1 (by decide) (by decide) W)
 have HNL := Lib.hid (show strN l = if l.length < 20 then l.length else 20 from rfl)
 have HN20 := Lib.hid (strN_le l)
 have HAT := Lib.hid (fun k => atK_bd l k)
 clear hI hx
 go_enter Tryz.func27, Tryz.ntmps27
 go_wp2_with fail
 go_loopw [5, 6, 7] (fun v a i wr => ∃ k : Nat, i = .int .i64 k ∧ k ≤ strN l ∧ a = .int .i64 (atK l k) ∧ ∃ yad yc, v = .slice yad k yc ∧ Hid (Own KE wr w.heap.size (.slice yad k yc) (strK ag l k)) ∧ Hid (Below w.heap.size w wr)) (fun _ _ i _ => 20 - (RowKit.intOf i).toNat)
 case atStart => exact ⟨0, rfl, Nat.zero_le _, rfl, none, 0, rfl, Lib.hid (Own.nil _ _ _), Lib.hid (Below.refl _ _)⟩
 case round =>
  obtain ⟨k, rfl, hk, rfl, yad, yc, rfl, HO, HB⟩ := hrel
  generalize wr = wo at *
  have hcn := HNL.out
  have hn20 := HN20.out
  by_cases hlk : k < strN l
  · have hk20 : k < 20 := by omega
    have hkl : k < l.length := by split at hcn <;> omega
    have hkk : (k : Int) < (l.length : Int) := by omega
    have hkk2 : (k : Int) < 20 := by omega
    obtain ⟨xb, xo, rfl, _, hxc⟩ := HC.out k hkl
    have HXC := Lib.hid (fun W (b : Below wo.heap.size wo W) => hxc W (below_up8 HB.out b))
    have y5 := (hxc wo HB.out).2.2.2.2.2
    have ixx := fun W => at_s6 xb xo l.length c k hkl W
    have hfit : (l[k]'hkl).fit := HXF.out _ (List.getElem_mem hkl)
    have hgd : l.getD k default = l[k]'hkl := by rw [List.getD_eq_getElem?_getD, List.getElem?_eq_getElem hkl]; rfl
    have HAS := Lib.hid (atK_step l k)
    have HSS := Lib.hid (strK_step ag l k)
    rw [hgd] at HAS HSS
    generalize l[k]'hkl = y at *
    have p0 := pick8_lo (c := y.f) (n := 50) (by decide)
    have p1 := pick8_hi (c := y.f) (n := 50) (by decide)
    have HPK := Lib.hid (fun W => pickR9_any y.f 50 hfit.2.2.2.2.2.1 hfit.2.2.2.2.2.2 (by decide) (by decide) W)
    have hat := HAT.out k
    obtain ⟨AK, hAK⟩ : ∃ AK, AK = atK l (k + 1) := ⟨_, rfl⟩
    have hak : AK = atK l k + pick8 y.f 50 := by rw [hAK]; exact HAS.out
    rw [← hAK] at HSS
    have HAK := Lib.hid hAK
    generalize pick8 y.f 50 = PK at *
    generalize atK l k = A0 at *
    have hws : IntKind.i64.wrap (A0 + PK) = A0 + PK := wrapq8 (by omega)
    have HMD := Lib.hid (fun W => madeR9_any (pick8 ag 6) (k : Int) AK y hfit W)
    generalize pick8 ag 6 = PA at *
    have HLT := Lib.hid hlk
    have HLN := Lib.hid (show (strK ag l k).length + 1 ≤ 100000000 from by rw [strK_len]; omega)
    have HPL := Lib.hid (strK_len ag l k)
    generalize strK ag l k = LP at *
    obtain ⟨EV, hEV⟩ : ∃ EV, EV = mdE PA (k : Int) AK y := ⟨_, rfl⟩
    rw [← hEV] at HSS HMD
    clear hxc hkl hgd hEV hAK hlk hcn hfit
    go_upto_region 7 with (go_at_call 42; refine (HPK.out _).mono ?_; rintro e z ⟨rfl, rfl⟩)
    rw [← hak]
    clear hak y5 hws HPK HAS
    refine wp_region_noPanic ?_
    refine wp_region_Kx (C := NewB wo) [11, 12] 11 #[false, false, false, false, false, false, false, false, false, false, false, false, false] (by kernel_rfl) (by kernel_rfl) (by kernel_rfl) (newB0 _) ?_
    intro wx hwx
    refine wpAnyK_ex (i := 0) rfl (by kernel_rfl) (listed' := #[true, false, false, false, false, false, false, false, false, false, false, false, false]) rfl (fun _ _ _ _ _ h => h) hwx ?_
    apply Exists.intro
    refine ⟨⟨by kernel_rfl, fun wy hw => ?_⟩, ?_⟩
    · (have bw := hw.below; have x0 := (HXC.out wy bw).1; have x1 := (HXC.out wy bw).2.1; have x2 := (HXC.out wy bw).2.2.1; have x3 := (HXC.out wy bw).2.2.2.1; have x4 := (HXC.out wy bw).2.2.2.2.1; have x5 := (HXC.out wy bw).2.2.2.2.2; go_simp; try (first | (with_reducible rfl) | (with_reducible exact ⟨rfl, rfl⟩)))
    try simp only [Act.put, List.getElem_toArray, List.getElem_cons_zero, List.setIfInBounds_toArray, List.set_cons_succ, List.set_cons_zero]
    refine wpAnyK_ex (i := 1) rfl (by kernel_rfl) (listed' := #[true, true, false, false, false, false, false, false, false, false, false, false, false]) rfl (fun _ _ _ _ _ h => h) hwx ?_
    apply Exists.intro
    refine ⟨⟨by kernel_rfl, fun wy hw => ?_⟩, ?_⟩
    · (have bw := hw.below; have x0 := (HXC.out wy bw).1; have x1 := (HXC.out wy bw).2.1; have x2 := (HXC.out wy bw).2.2.1; have x3 := (HXC.out wy bw).2.2.2.1; have x4 := (HXC.out wy bw).2.2.2.2.1; have x5 := (HXC.out wy bw).2.2.2.2.2; go_simp; try (first | (with_reducible rfl) | (with_reducible exact ⟨rfl, rfl⟩)))
    try simp only [Act.put, List.getElem_toArray, List.getElem_cons_succ, List.getElem_cons_zero, List.setIfInBounds_toArray, List.set_cons_succ, List.set_cons_zero]
    refine wpAnyK_callx (i := 2) rfl (by kernel_rfl) (listed' := #[true, true, true, false, false, false, false, false, false, false, false, false, false]) rfl (fun _ _ _ _ _ h => h) hwx ?_
    apply Exists.intro
    apply Exists.intro
    apply Exists.intro
    refine ⟨⟨by kernel_rfl, fun wy hw => ?_, fun wy hw => ?_⟩, ?_⟩
    · (have bw := hw.below; have x0 := (HXC.out wy bw).1; have x1 := (HXC.out wy bw).2.1; have x2 := (HXC.out wy bw).2.2.1; have x3 := (HXC.out wy bw).2.2.2.1; have x4 := (HXC.out wy bw).2.2.2.2.1; have x5 := (HXC.out wy bw).2.2.2.2.2; go_simp; try (first | (with_reducible rfl) | (with_reducible exact ⟨rfl, rfl⟩)))
    · (exact (HPA.out wy).mono (fun e w2 h => ⟨h.1, h.2.symm⟩))
    try simp only [Act.put, List.getElem_toArray, List.getElem_cons_succ, List.getElem_cons_zero, List.setIfInBounds_toArray, List.set_cons_succ, List.set_cons_zero]
    refine wpAnyK_ex (i := 3) rfl (by kernel_rfl) (listed' := #[true, true, true, true, false, false, false, false, false, false, false, false, false]) rfl (fun _ _ _ _ _ h => h) hwx ?_
    apply Exists.intro
    refine ⟨⟨by kernel_rfl, fun wy hw => ?_⟩, ?_⟩
    · (have bw := hw.below; have x0 := (HXC.out wy bw).1; have x1 := (HXC.out wy bw).2.1; have x2 := (HXC.out wy bw).2.2.1; have x3 := (HXC.out wy bw).2.2.2.1; have x4 := (HXC.out wy bw).2.2.2.2.1; have x5 := (HXC.out wy bw).2.2.2.2.2; go_simp; try (first | (with_reducible rfl) | (with_reducible exact ⟨rfl, rfl⟩)))
    try simp only [Act.put, List.getElem_toArray, List.getElem_cons_succ, List.getElem_cons_zero, List.setIfInBounds_toArray, List.set_cons_succ, List.set_cons_zero]
    refine wpAnyK_ex (i := 4) rfl (by kernel_rfl) (listed' := #[true, true, true, true, true, false, false, false, false, false, false, false, false]) rfl (fun _ _ _ _ _ h => h) hwx ?_
    apply Exists.intro
    refine ⟨⟨by kernel_rfl, fun wy hw => ?_⟩, ?_⟩
    · (have bw := hw.below; have x0 := (HXC.out wy bw).1; have x1 := (HXC.out wy bw).2.1; have x2 := (HXC.out wy bw).2.2.1; have x3 := (HXC.out wy bw).2.2.2.1; have x4 := (HXC.out wy bw).2.2.2.2.1; have x5 := (HXC.out wy bw).2.2.2.2.2; go_simp; try (first | (with_reducible rfl) | (with_reducible exact ⟨rfl, rfl⟩)))
    try simp only [Act.put, List.getElem_toArray, List.getElem_cons_succ, List.getElem_cons_zero, List.setIfInBounds_toArray, List.set_cons_succ, List.set_cons_zero]
    refine wpAnyK_ex (i := 5) rfl (by kernel_rfl) (listed' := #[true, true, true, true, true, true, false, false, false, false, false, false, false]) rfl (fun _ _ _ _ _ h => h) hwx ?_
    apply Exists.intro
    refine ⟨⟨by kernel_rfl, fun wy hw => ?_⟩, ?_⟩
    · (have bw := hw.below; have x0 := (HXC.out wy bw).1; have x1 := (HXC.out wy bw).2.1; have x2 := (HXC.out wy bw).2.2.1; have x3 := (HXC.out wy bw).2.2.2.1; have x4 := (HXC.out wy bw).2.2.2.2.1; have x5 := (HXC.out wy bw).2.2.2.2.2; go_simp; try (first | (with_reducible rfl) | (with_reducible exact ⟨rfl, rfl⟩)))
    try simp only [Act.put, List.getElem_toArray, List.getElem_cons_succ, List.getElem_cons_zero, List.setIfInBounds_toArray, List.set_cons_succ, List.set_cons_zero]
    refine wpAnyK_ex (i := 6) rfl (by kernel_rfl) (listed' := #[true, true, true, true, true, true, true, false, false, false, false, false, false]) rfl (fun _ _ _ _ _ h => h) hwx ?_
    apply Exists.intro
    refine ⟨⟨by kernel_rfl, fun wy hw => ?_⟩, ?_⟩
    · (have bw := hw.below; have x0 := (HXC.out wy bw).1; have x1 := (HXC.out wy bw).2.1; have x2 := (HXC.out wy bw).2.2.1; have x3 := (HXC.out wy bw).2.2.2.1; have x4 := (HXC.out wy bw).2.2.2.2.1; have x5 := (HXC.out wy bw).2.2.2.2.2; go_simp; try (first | (with_reducible rfl) | (with_reducible exact ⟨rfl, rfl⟩)))
    try simp only [Act.put, List.getElem_toArray, List.getElem_cons_succ, List.getElem_cons_zero, List.setIfInBounds_toArray, List.set_cons_succ, List.set_cons_zero]
    refine wpAnyK_ex (i := 7) rfl (by kernel_rfl) (listed' := #[true, true, true, true, true, true, true, true, false, false, false, false, false]) rfl (fun _ _ _ _ _ h => h) hwx ?_
    apply Exists.intro
    refine ⟨⟨by kernel_rfl, fun wy hw => ?_⟩, ?_⟩
    · (have bw := hw.below; have x0 := (HXC.out wy bw).1; have x1 := (HXC.out wy bw).2.1; have x2 := (HXC.out wy bw).2.2.1; have x3 := (HXC.out wy bw).2.2.2.1; have x4 := (HXC.out wy bw).2.2.2.2.1; have x5 := (HXC.out wy bw).2.2.2.2.2; go_simp; try (first | (with_reducible rfl) | (with_reducible exact ⟨rfl, rfl⟩)))
    try simp only [Act.put, List.getElem_toArray, List.getElem_cons_succ, List.getElem_cons_zero, List.setIfInBounds_toArray, List.set_cons_succ, List.set_cons_zero]
    refine wpAnyK_ex (i := 8) rfl (by kernel_rfl) (listed' := #[true, true, true, true, true, true, true, true, true, false, false, false, false]) rfl (fun _ _ _ _ _ h => h) hwx ?_
    apply Exists.intro
    refine ⟨⟨by kernel_rfl, fun wy hw => ?_⟩, ?_⟩
    · (have bw := hw.below; have x0 := (HXC.out wy bw).1; have x1 := (HXC.out wy bw).2.1; have x2 := (HXC.out wy bw).2.2.1; have x3 := (HXC.out wy bw).2.2.2.1; have x4 := (HXC.out wy bw).2.2.2.2.1; have x5 := (HXC.out wy bw).2.2.2.2.2; go_simp; try (first | (with_reducible rfl) | (with_reducible exact ⟨rfl, rfl⟩)))
    try simp only [Act.put, List.getElem_toArray, List.getElem_cons_succ, List.getElem_cons_zero, List.setIfInBounds_toArray, List.set_cons_succ, List.set_cons_zero]
    refine wpAnyK_fork1 9 (by kernel_rfl) ?_
    refine wpOpK_step rfl (by kernel_rfl) (listed' := #[true, true, true, true, true, true, true, true, true, true, false, false, false]) rfl (by kernel_rfl) (fun K hK => ?_)
    go_simp
    refine (HMD.out _).mono ?_
    rintro e w4 ⟨rfl, hb⟩
    have H4 := Lib.hid (below_up8 hwx.below hb)
    obtain ⟨wB, VB, ZB, KB, BB⟩ := lay8 w4 EV.cells 23
    have VB := (show w4.alloc (.cells #[.int .i64 EV.ag, .int .i64 EV.sq, .int .i64 EV.tm, .int .i64 EV.kd, .int .i64 EV.tr, .int .i64 EV.sp, .int .i64 EV.lk, .int .i64 EV.gn, .int .i64 EV.op, .int .i64 EV.vr, .int .i64 EV.pe, .int .i64 EV.bt] 23) = wB from VB)
    have KB := Lib.hid (show CellsAt wB w4.heap.size (KE.cs EV) from KB)
    have H5 := Lib.hid (show Below wo.heap.size wo wB from below_up8 H4.out BB)
    have hz4 := H4.out.size
    have hzw : w.heap.size ≤ wo.heap.size := HB.out.size
    rw [Ev.val_mk]
    refine hK _ _ H4.out ?_
    clear hK K hb BB
    try simp only [Act.put, List.getElem_toArray, List.getElem_cons_succ, List.getElem_cons_zero, List.setIfInBounds_toArray, List.set_cons_succ, List.set_cons_zero]
    refine wpAnyK_fork1 10 (by kernel_rfl) ?_
    refine wpOpK_step rfl (by kernel_rfl) (listed' := #[true, true, true, true, true, true, true, true, true, true, true, false, false]) rfl (by kernel_rfl) (fun K hK => ?_)
    go_simp
    refine hK _ _ H5.out ?_
    clear hK K VB
    try simp only [Act.put, List.getElem_toArray, List.getElem_cons_succ, List.getElem_cons_zero, List.setIfInBounds_toArray, List.set_cons_succ, List.set_cons_zero]
    refine wpAnyK_end (by kernel_rfl) ?_
    try simp only [pickOps, List.filterMap_cons, List.filterMap_nil, List.getElem?_toArray, List.getElem?_cons_succ, List.getElem?_cons_zero]
    refine walk_push8 KE (w0 := wB) rfl _ _ rfl w.heap.size (.slice yad k yc) LP EV rfl (HO.out.below H5.out (Nat.le_refl _)) (Below.refl _ _) (by have := H5.out.size; omega) _ 1 rfl KB.out HLN.out ?_
    intro v9 w9 ho9 hb9 hg9 hk9
    go_wp2_with fail
    refine NoPanic.normal ?_
    have HB9 := Lib.hid (show Below w.heap.size w w9 from (HB.out.trans (H5.out.mono hzw)).trans hb9)
    obtain ⟨yad9, yc9, e9, _⟩ := ho9.form
    have hl9 : (LP ++ [EV]).length = k + 1 := by rw [List.length_append, HPL.out]; rfl
    rw [hl9] at e9
    subst e9
    have HO9 := Lib.hid ho9
    clear ho9 hb9 hg9 hk9
    go_wp2_with fail
    go_roundw
    case rel => exact ⟨k + 1, by go_num, HLT.out, by rw [HAK.out], yad9, yc9, rfl, Lib.hid (by rw [HSS.out]; exact HO9.out), HB9⟩
    case measure => have h9 := HLT.out; simp [RowKit.intOf]; omega
  · have hke : k = strN l := by omega
    have hout : ¬ ((k : Int) < (l.length : Int)) ∨ ((k : Int) < (l.length : Int) ∧ ¬ (k : Int) < 20) := by
     split at hcn <;> omega
    have HF := Lib.hid (show EsPost w (strL ag l) (.returned (.slice yad k yc)) wo from by
     have e : strL ag l = strK ag l k := by unfold strL; rw [hke]
     have h := Own.es9 HB.out HO.out
     rw [e]
     exact h)
    clear hke hlk hcn
    rcases hout with hout | ⟨hout1, hout2⟩
    · go_wp2_with fail
      go_ret
      exact HF.out
    · go_wp2_with fail
      go_ret
      exact HF.out
end Go.Proofs.YtnpfhcnjkekhbaaGreatDoor

namespace Go.Proofs.YtnpfhcnjkekhbaaGreatDoor
open Go Go.Proofs Go.RowKit Go.Lib Go.Maps
theorem isIn9_u (n lo hi : Int) (w : World) :
 Calls Tryz.prog 71 #[.int .i64 n, .int .i64 lo, .int .i64 hi] w fun e w' => e = .returned (.bool (inB n lo hi)) ∧ w' = w := by
 obtain ⟨B, hB⟩ : ∃ B, inB n lo hi = B := ⟨_, rfl⟩
 rw [hB]
 have HB := Lib.hid hB
 clear hB
 by_cases h1 : lo ≤ n
 · by_cases h2 : n ≤ hi
   · have HF := Lib.hid (show B = true by rw [← HB.out]; exact decide_eq_true ⟨h1, h2⟩)
     go_enter Tryz.func71, Tryz.ntmps71
     go_wp2
     go_ret
     exact ⟨by rw [HF.out]; rfl, rfl⟩
   · have HF := Lib.hid (show B = false by rw [← HB.out]; exact decide_eq_false (by omega))
     go_enter Tryz.func71, Tryz.ntmps71
     go_wp2
     go_ret
     exact ⟨by rw [HF.out]; rfl, rfl⟩
 · have h3 : decide (lo ≤ n) = false := decide_eq_false h1
   have HF := Lib.hid (show B = false by rw [← HB.out]; exact decide_eq_false (by omega))
   go_enter Tryz.func71, Tryz.ntmps71
   go_wp2
   go_ret
   exact ⟨by rw [HF.out]; rfl, rfl⟩
theorem isAgent_u (n : Int) (w : World) :
 Calls Tryz.prog 44 #[.int .i64 n] w fun e w' => e = .returned (.bool (inB n 0 5)) ∧ w' = w := by
 have HC := Lib.hid (fun W => isIn9_u n 0 5 W)
 generalize inB n 0 5 = b at *
 go_enter Tryz.func44, Tryz.ntmps44
 go_wp2_with fail
 refine (HC.out _).mono ?_
 rintro e z ⟨rfl, rfl⟩
 go_wp2_with fail
 go_ret
 exact ⟨rfl, rfl⟩
theorem isFirst_u (n : Int) (w : World) :
 Calls Tryz.prog 45 #[.int .i64 n] w fun e w' => e = .returned (.bool (inB n 0 999)) ∧ w' = w := by
 have HC := Lib.hid (fun W => isIn9_u n 0 999 W)
 generalize inB n 0 999 = b at *
 go_enter Tryz.func45, Tryz.ntmps45
 go_wp2_with fail
 refine (HC.out _).mono ?_
 rintro e z ⟨rfl, rfl⟩
 go_wp2_with fail
 go_ret
 exact ⟨rfl, rfl⟩
theorem isLow_u (n : Int) (w : World) :
 Calls Tryz.prog 46 #[.int .i64 n] w fun e w' => e = .returned (.bool (inB n 0 1000)) ∧ w' = w := by
 have HC := Lib.hid (fun W => isIn9_u n 0 1000 W)
 generalize inB n 0 1000 = b at *
 go_enter Tryz.func46, Tryz.ntmps46
 go_wp2_with fail
 refine (HC.out _).mono ?_
 rintro e z ⟨rfl, rfl⟩
 go_wp2_with fail
 go_ret
 exact ⟨rfl, rfl⟩
theorem isHead_u (h : ByteArray) (w : World) :
 Calls Tryz.prog 47 #[.string h] w fun e w' => e = .returned (.bool (decide (h.size = 32))) ∧ w' = w := by
 obtain ⟨B, hB⟩ : ∃ B, decide (h.size = 32) = B := ⟨_, rfl⟩
 rw [hB]
 have HB := Lib.hid hB
 clear hB
 by_cases h1 : h.size = 32
 · have HF := Lib.hid (show B = true by rw [← HB.out]; exact decide_eq_true h1)
   have h2 : (h.size : Int) = 32 := by omega
   go_enter Tryz.func47, Tryz.ntmps47
   go_wp2
   go_ret
   exact ⟨by rw [HF.out]; first | rfl | (simp [h2]), rfl⟩
 · have HF := Lib.hid (show B = false by rw [← HB.out]; exact decide_eq_false h1)
   have h2 : ¬ (h.size : Int) = 32 := by omega
   go_enter Tryz.func47, Tryz.ntmps47
   go_wp2
   go_ret
   exact ⟨by rw [HF.out]; first | rfl | (simp [h2]), rfl⟩
theorem areLows1_u (n : Int) (w : World) :
 Calls Tryz.prog 82 #[.int .i64 n] w fun e w' => e = .returned (.bool (!inB n 0 1000)) ∧ w' = w := by
 have HC := Lib.hid (fun W => isLow_u n W)
 generalize inB n 0 1000 = b at *
 go_enter Tryz.func82, Tryz.ntmps82
 go_wp2_with fail
 refine (HC.out _).mono ?_
 rintro e z ⟨rfl, rfl⟩
 go_wp2_with fail
 go_ret
 exact ⟨rfl, rfl⟩
theorem areLows_u (ad : Option Addr) (c : Nat) (l : List Int) (k : Nat) (hl : l.length ≤ maxLen) (w : World) (hI : RL KI w ad l) :
 Calls Tryz.prog 59 #[.slice ad l.length c, .int .i64 (k : Int)] w fun e w' => e = .returned (.bool (okY l k)) ∧ Below w.heap.size w w' := by
 have HC := Lib.hid (fun W (b : Below w.heap.size w W) => containsInt_u (fun v => !inB v 0 1000) 82 #[] W.heap.size ad c l hl W (Nat.le_refl _) (hI.below b) (by intro args W; rfl) (fun x W _ => areLows1_u x W))
 obtain ⟨B, hB⟩ : ∃ B, okY l k = B := ⟨_, rfl⟩
 rw [hB]
 unfold okY at hB
 generalize (l.any fun v => !inB v 0 1000) = R at *
 have HB := Lib.hid hB
 clear hI hl hB
 by_cases h : l.length = k
 · have HF := Lib.hid (show B = !R by rw [← HB.out, decide_eq_true h]; rfl)
   subst h
   go_enter Tryz.func59, Tryz.ntmps59
   go_wp2_with fail
   refine (HC.out _ (Below.refl _ _)).mono ?_
   rintro e z ⟨rfl, hz⟩
   have HZ := Lib.hid hz
   clear hz
   go_wp2_with fail
   go_ret
   exact ⟨by rw [HF.out]; first | rfl | simp, HZ.out⟩
 · have h2 : ¬ (l.length : Int) = (k : Int) := by omega
   have HF := Lib.hid (show B = false by rw [← HB.out, decide_eq_false h]; rfl)
   go_enter Tryz.func59, Tryz.ntmps59
   go_wp2_with fail
   go_ret
   exact ⟨by rw [HF.out]; first | rfl | (simp [h2]), Below.refl _ _⟩
theorem areSizes_u (ad : Option Addr) (c : Nat) (l : List Int) (n : Nat) (w : World) (hI : RL KI w ad l) :
 Calls Tryz.prog 58 #[.slice ad l.length c, .int .i64 (n : Int)] w fun e w' => e = .returned (.bool (okX l n)) ∧ w' = w := by
 have HC := Lib.hid (fun k hk => hI.int k hk)
 obtain ⟨B, hB⟩ : ∃ B, okX l n = B := ⟨_, rfl⟩
 rw [hB]
 have HNO := Lib.hid (fun h : ¬ (l.length ≤ 200 ∧ (∀ v ∈ l, 0 ≤ v ∧ v ≤ 24) ∧ l.sum = (n : Int)) => show B = false by
  rw [← hB]
  cases hx : okX l n with
  | false => rfl
  | true => exact absurd (okX_of hx) h)
 have HYES := Lib.hid (fun h : l.length ≤ 200 ∧ (∀ v ∈ l, 0 ≤ v ∧ v ≤ 24) ∧ l.sum = (n : Int) => show B = true by rw [← hB]; exact okX_yes h.1 h.2.1 h.2.2)
 have HA := Lib.hid (endK_all l)
 have HST := Lib.hid (fun k (h : k < l.length) => endK_step (x := l) h)
 clear hI hB
 by_cases h200 : (200 : Int) < (l.length : Int)
 · have HF := Lib.hid (HNO.out (fun h => by have := h.1; omega))
   go_enter Tryz.func58, Tryz.ntmps58
   go_wp2_with fail
   go_ret
   exact ⟨by rw [HF.out]; rfl, rfl⟩
 · have hl200 : l.length ≤ 200 := by omega
   have hw2 : ¬ (l.length : Int) > 200 := h200
   go_enter Tryz.func58, Tryz.ntmps58
   go_wp2_with fail
   go_loopw [5, 13] (fun s i wr => ∃ k : Nat, i = .int .i64 k ∧ k ≤ l.length ∧ s = .int .i64 (endK l k) ∧ Hid (∀ v ∈ l.take k, 0 ≤ v ∧ v ≤ 24) ∧ Hid (0 ≤ endK l k ∧ endK l k ≤ 24 * (k : Int)) ∧ wr = w) (fun _ i _ => l.length - (RowKit.intOf i).toNat)
   case atStart => exact ⟨0, rfl, Nat.zero_le _, rfl, Lib.hid (fun v hv => by simp at hv), Lib.hid ⟨Int.le_refl _, Int.le_refl _⟩, rfl⟩
   case round =>
    obtain ⟨k, rfl, hk, rfl, HO, HE, hwr⟩ := hrel
    subst hwr
    by_cases hlt : k < l.length
    · have hki : (k : Int) < (l.length : Int) := by omega
      obtain ⟨xb, xo, rfl, _, hxc⟩ := HC.out k hlt
      have c0 := hxc wr (Below.refl _ _)
      have hik := fun W => at_int8 xb xo l.length c k hlt W
      have HSS := Lib.hid (HST.out k hlt)
      have HTK := Lib.hid (List.take_succ_eq_append_getElem hlt)
      have HMM := Lib.hid (List.getElem_mem hlt)
      have HLT := Lib.hid hlt
      generalize l[k]'hlt = x at *
      have HCI := Lib.hid (fun W => isIn9_u x 0 24 W)
      have he := HE.out
      obtain ⟨EK, hEK⟩ : ∃ EK, EK = endK l (k + 1) := ⟨_, rfl⟩
      rw [← hEK] at HSS
      have HEK := Lib.hid hEK
      generalize endK l k = E0 at *
      clear hxc hEK
      cases hin : inB x 0 24 with
      | false =>
       have HF := Lib.hid (HNO.out (fun h => by
        have := h.2.1 x HMM.out
        rw [inB_yes this.1 this.2] at hin
        cases hin))
       rw [hin] at HCI
       clear hin hlt
       go_wp2_with (go_at_call 71; refine (HCI.out _).mono ?_; rintro e z ⟨rfl, rfl⟩)
       go_ret
       exact ⟨by rw [HF.out]; rfl, rfl⟩
      | true =>
       have hxb := of_inB hin
       have HXB := Lib.hid hxb
       rw [hin] at HCI
       have hws : IntKind.i64.wrap (E0 + x) = E0 + x := wrapq8 (by omega)
       clear hin hlt
       go_wp2_with (go_at_call 71; refine (HCI.out _).mono ?_; rintro e z ⟨rfl, rfl⟩)
       go_roundw
       case rel => exact ⟨k + 1, by go_num, HLT.out, by rw [← HEK.out, HSS.out], Lib.hid (fun v hv => by
        rw [HTK.out] at hv
        rcases List.mem_append.1 hv with hv | hv
        · exact HO.out v hv
        · rw [List.mem_singleton] at hv
          rw [hv]
          exact HXB.out), Lib.hid (by rw [← HEK.out, HSS.out]; have := HXB.out; have := HE.out; omega), by trivial⟩
       case measure => have := HLT.out; simp [RowKit.intOf]; omega
    · have hke : k = l.length := by omega
      have hki : ¬ (k : Int) < (l.length : Int) := by omega
      subst hke
      have HO2 := Lib.hid (show ∀ v ∈ l, 0 ≤ v ∧ v ≤ 24 from fun v hv => HO.out v (by rw [List.take_length]; exact hv))
      have HL2 := Lib.hid hl200
      clear hlt
      by_cases hs : endK l l.length = (n : Int)
      · have HF := Lib.hid (HYES.out ⟨HL2.out, HO2.out, by rw [← HA.out]; exact hs⟩)
        generalize endK l l.length = EE at *
        subst hs
        go_wp2_with fail
        go_ret
        exact ⟨by rw [HF.out]; first | rfl | simp, by trivial⟩
      · have HF := Lib.hid (HNO.out (fun h => hs (by rw [HA.out]; exact h.2.2)))
        generalize endK l l.length = EE at *
        go_wp2_with fail
        go_ret
        exact ⟨by rw [HF.out]; first | rfl | simp [hs], by trivial⟩
theorem indexEv_u (p : Ev → Bool) (F : Nat) (lb : Array Value) (ad : Option Addr) (c : Nat) (l : List Ev) (hl : l.length ≤ maxLen) (w : World) (hI : RL KE w ad l)
 (eg : ∀ args W, (callFunc F args).run Tryz.prog W = .ok (.enter F args) W)
 (HF : ∀ x ∈ l, ∀ W, Below w.heap.size w W → Calls Tryz.prog F (#[x.val] ++ lb) W fun e W' => e = .returned (.bool (p x)) ∧ Below W.heap.size W W') :
 Calls Tryz.prog 96 #[.slice ad l.length c, .func (.func F) #[] lb] w fun e w' => e = .returned (.int .i64 (idxN p l 0)) ∧ Below w.heap.size w w' := by
 unfold maxLen at hl
 have HC := Lib.hid (fun k hk => hI.ev k hk)
 have HST := Lib.hid (fun k h => idxN_step p (l := l) (k := k) h)
 have HN := Lib.hid (show idxN p (l.drop l.length) l.length = -1 by rw [List.drop_length]; rfl)
 have H0 := Lib.hid (show idxN p l 0 = idxN p (l.drop 0) 0 from rfl)
 have HF := Lib.hid HF
 generalize idxN p l 0 = O at *
 clear hI
 go_enter Tryz.func96, Tryz.ntmps96
 go_wp2_with fail
 go_loopw [8] (fun i wr => ∃ k : Nat, k ≤ l.length ∧ i = .int .i64 k ∧ Hid (O = idxN p (l.drop k) k) ∧ Hid (Below w.heap.size w wr)) (fun i _ => l.length - (RowKit.intOf i).toNat)
 case atStart => exact ⟨0, Nat.zero_le _, rfl, H0, Lib.hid (Below.refl _ _)⟩
 case round =>
  obtain ⟨k, hk, rfl, HK, HB⟩ := hrel
  by_cases hlt : k < l.length
  · have hki : (k : Int) < (l.length : Int) := by omega
    obtain ⟨b, o, rfl, _, e2⟩ := HC.out k hlt
    have hik := fun W => at_ev8 b o l.length c k hlt W
    obtain ⟨d0, d1, d2, d3, d4, d5, d6, d7, d8, d9, d10, d11⟩ := e2 wr HB.out
    have hst := HST.out k hlt
    have HLT := Lib.hid hlt
    have HMM := Lib.hid (List.getElem_mem hlt)
    generalize l[k]'hlt = x at *
    have CB := Lib.hid (fun W b => HF.out x HMM.out W b)
    rw [Ev.val_mk] at CB
    cases hb : p x with
    | true =>
     have HO := Lib.hid (show O = (k : Int) by rw [HK.out, hst, hb]; rfl)
     rw [hb] at CB
     clear hst hb e2 hlt
     go_wp2_with fail
     refine (CB.out _ HB.out).mono ?_
     rintro e z ⟨rfl, hz⟩
     have HZ := Lib.hid (below_up8 HB.out hz)
     clear d0 d1 d2 d3 d4 d5 d6 d7 d8 d9 d10 d11 hz
     go_wp2_with fail
     go_ret
     exact ⟨by rw [HO.out]; rfl, HZ.out⟩
    | false =>
     have HO := Lib.hid (show O = idxN p (l.drop (k + 1)) (k + 1) by rw [HK.out, hst, hb]; rfl)
     rw [hb] at CB
     clear hst hb e2 hlt
     go_wp2_with fail
     refine (CB.out _ HB.out).mono ?_
     rintro e z ⟨rfl, hz⟩
     have HZ := Lib.hid (below_up8 HB.out hz)
     clear d0 d1 d2 d3 d4 d5 d6 d7 d8 d9 d10 d11 hz
     go_wp2_with fail
     go_roundw
     case rel => exact ⟨k + 1, HLT.out, by go_num, HO, HZ⟩
     case measure => have := HLT.out; simp [RowKit.intOf]; omega
  · have hke : k = l.length := by omega
    have HO := Lib.hid (show O = -1 by rw [HK.out, hke, HN.out])
    have hki : ¬ (k : Int) < (l.length : Int) := by omega
    clear hke hlt
    go_wp2_with fail
    go_ret
    exact ⟨by rw [HO.out]; rfl, HB.out⟩
theorem containsEv_u (p : Ev → Bool) (F : Nat) (lb : Array Value) (ad : Option Addr) (c : Nat) (l : List Ev) (hl : l.length ≤ maxLen) (w : World) (hI : RL KE w ad l)
 (eg : ∀ args W, (callFunc F args).run Tryz.prog W = .ok (.enter F args) W)
 (HF : ∀ x ∈ l, ∀ W, Below w.heap.size w W → Calls Tryz.prog F (#[x.val] ++ lb) W fun e W' => e = .returned (.bool (p x)) ∧ Below W.heap.size W W') :
 Calls Tryz.prog 72 #[.slice ad l.length c, .func (.func F) #[] lb] w fun e w' => e = .returned (.bool (l.any p)) ∧ Below w.heap.size w w' := by
 have HC := Lib.hid (indexEv_u p F lb ad c l hl w hI eg HF)
 have HA := Lib.hid (idxN_any p l 0)
 generalize idxN p l 0 = O at *
 generalize l.any p = R at *
 clear hI hl HF
 go_enter Tryz.func72, Tryz.ntmps72
 go_wp2_with fail
 refine (HC.out).mono ?_
 rintro e z ⟨rfl, hz⟩
 have HZ := Lib.hid hz
 clear hz
 go_wp2_with fail
 go_ret
 exact ⟨by rw [← HA.out]; rfl, HZ.out⟩
theorem isKept1_u (x : Ev) (g : Nat) (lw : Int) (w : World) (hg : w.cell? ⟨g, 0, none⟩ = some (.int .i64 lw)) : Calls Tryz.prog 85 #[x.val, .pointer (some ⟨g, 0, none⟩)] w fun e w' => e = .returned (.bool (decide (x.tr < lw))) ∧ Below w.heap.size w w' := by
 obtain ⟨w1, V1, Z1, K1, B1⟩ := lay8 w x.cells 23
 have V1 := (show w.alloc (.cells #[.int .i64 x.ag, .int .i64 x.sq, .int .i64 x.tm, .int .i64 x.kd, .int .i64 x.tr, .int .i64 x.sp, .int .i64 x.lk, .int .i64 x.gn, .int .i64 x.op, .int .i64 x.vr, .int .i64 x.pe, .int .i64 x.bt] 23) = w1 from V1)
 obtain ⟨d0, d1, d2, d3, d4, d5, d6, d7, d8, d9, d10, d11⟩ := CellsAt.ev K1
 have c0 : w1.cell? ⟨g, 0, none⟩ = some (.int .i64 lw) := (B1.cell (p := ⟨g, 0, none⟩) (World.block_lt_of_cell? _ _ hg)).trans hg
 have HB := Lib.hid B1
 rw [Ev.val_mk]
 clear hg K1 B1
 go_enter Tryz.func85, Tryz.ntmps85
 go_wp2_with fail
 go_ret
 exact ⟨rfl, HB.out⟩
theorem isKept_u (lw : Int) (ad : Option Addr) (c : Nat) (l : List Ev) (hl : l.length ≤ maxLen) (w : World) (hI : RL KE w ad l) :
 Calls Tryz.prog 61 #[.int .i64 lw, .slice ad l.length c] w fun e w' => e = .returned (.bool (keepB lw l)) ∧ Below w.heap.size w w' := by
 obtain ⟨w1, V1, Z1, K1, B1⟩ := lay8 w [.int .i64 lw] 3
 have V1 := (show w.alloc (.cells #[.int .i64 lw] 3) = w1 from V1)
 have HB := Lib.hid B1
 have HC := Lib.hid (containsEv_u (fun e => decide (e.tr < lw)) 85 #[.pointer (some ⟨w.heap.size, 0, none⟩)] ad c l hl w1 (hI.below B1) (by intro args W; rfl) (fun x hx W b => isKept1_u x w.heap.size lw W ((b.cell (p := ⟨w.heap.size, 0, none⟩) (by show w.heap.size < _; omega)).trans (K1 0 (by simp)).1)))
 have HK := Lib.hid (show keepB lw l = !(l.any fun e => decide (e.tr < lw)) from rfl)
 generalize (l.any fun e => decide (e.tr < lw)) = R at *
 generalize keepB lw l = R2 at *
 have hmf : ∀ (fn : Fn) (first cap : Array Value) (w : World), (Instr.makeFunc fn first cap).run Tryz.prog w = .ok (.func fn first cap) w := fun _ _ _ _ => rfl
 clear hl hI K1 B1
 go_enter Tryz.func61, Tryz.ntmps61
 go_wp2_with fail
 refine (HC.out).mono ?_
 rintro e z ⟨rfl, hz⟩
 have HZ := Lib.hid (below_up8 HB.out hz)
 clear hz V1
 go_wp2_with fail
 go_ret
 exact ⟨by rw [HK.out]; rfl, HZ.out⟩
end Go.Proofs.YtnpfhcnjkekhbaaGreatDoor

namespace Go.Proofs.YtnpfhcnjkekhbaaGreatDoor
open Go Go.Proofs Go.RowKit Go.Lib Go.Maps
theorem evcopy9 (W : World) (x : Ev) : ∃ w3 w4, W.alloc (.cells #[.int .i64 0, .int .i64 0, .int .i64 0, .int .i64 0, .int .i64 0, .int .i64 0, .int .i64 0, .int .i64 0, .int .i64 0, .int .i64 0, .int .i64 0, .int .i64 0] 23) = w3 ∧ w3.heap.size = W.heap.size + 1 ∧ (∀ i, i < 12 → w3.cell? ⟨W.heap.size, i, none⟩ = some (.int .i64 0) ∧ w3.frozen? ⟨W.heap.size, i, none⟩ = false) ∧
 ((((((((((((w3.setCell ⟨W.heap.size, 0, none⟩ (.int .i64 x.ag)).setCell ⟨W.heap.size, 1, none⟩ (.int .i64 x.sq)).setCell ⟨W.heap.size, 2, none⟩ (.int .i64 x.tm)).setCell ⟨W.heap.size, 3, none⟩ (.int .i64 x.kd)).setCell ⟨W.heap.size, 4, none⟩ (.int .i64 x.tr)).setCell ⟨W.heap.size, 5, none⟩ (.int .i64 x.sp)).setCell ⟨W.heap.size, 6, none⟩ (.int .i64 x.lk)).setCell ⟨W.heap.size, 7, none⟩ (.int .i64 x.gn)).setCell ⟨W.heap.size, 8, none⟩ (.int .i64 x.op)).setCell ⟨W.heap.size, 9, none⟩ (.int .i64 x.vr)).setCell ⟨W.heap.size, 10, none⟩ (.int .i64 x.pe)).setCell ⟨W.heap.size, 11, none⟩ (.int .i64 x.bt)) = w4 ∧ CellsAt w4 W.heap.size x.cells ∧ Below W.heap.size W w4 ∧ Below W.heap.size W w3 ∧ w4.heap.size = W.heap.size + 1 := by
 obtain ⟨w3, V3, Z3, K3, B3⟩ := lay8 W zE.cells 23
 have V3 := (show W.alloc (.cells #[.int .i64 0, .int .i64 0, .int .i64 0, .int .i64 0, .int .i64 0, .int .i64 0, .int .i64 0, .int .i64 0, .int .i64 0, .int .i64 0, .int .i64 0, .int .i64 0] 23) = w3 from V3)
 have K3 := (show CellsAt w3 W.heap.size [.int .i64 0, .int .i64 0, .int .i64 0, .int .i64 0, .int .i64 0, .int .i64 0, .int .i64 0, .int .i64 0, .int .i64 0, .int .i64 0, .int .i64 0, .int .i64 0] from K3)
 refine ⟨w3, _, V3, Z3, fun i hi => ?_, rfl, ((((((((((((K3.put 0 _).put 1 _).put 2 _).put 3 _).put 4 _).put 5 _).put 6 _).put 7 _).put 8 _).put 9 _).put 10 _).put 11 _), ((((((((((((B3.setCell (Nat.le_refl _) _).setCell (Nat.le_refl _) _).setCell (Nat.le_refl _) _).setCell (Nat.le_refl _) _).setCell (Nat.le_refl _) _).setCell (Nat.le_refl _) _).setCell (Nat.le_refl _) _).setCell (Nat.le_refl _) _).setCell (Nat.le_refl _) _).setCell (Nat.le_refl _) _).setCell (Nat.le_refl _) _).setCell (Nat.le_refl _) _), B3, ?_⟩
 · obtain ⟨g, g'⟩ := K3 i (by simpa using hi)
   refine ⟨?_, g'⟩
   rw [g]
   match i, hi with
   | 0, _ => rfl
   | 1, _ => rfl
   | 2, _ => rfl
   | 3, _ => rfl
   | 4, _ => rfl
   | 5, _ => rfl
   | 6, _ => rfl
   | 7, _ => rfl
   | 8, _ => rfl
   | 9, _ => rfl
   | 10, _ => rfl
   | 11, _ => rfl
 · simp [Z3]
theorem numB_no {ag fs : Int} {l : List Ev} {i : Nat} (hi : i < l.length) (h : ¬ (evB (evD l i) = true ∧ (evD l i).ag = ag ∧ (evD l i).sq = fs + (i : Int))) : numB ag fs l = false := by
 cases hb : numB ag fs l with
 | false => rfl
 | true => exact absurd (numB_of hb i hi) h
theorem numbered_u (ag fs : Int) (ad : Option Addr) (c : Nat) (l : List Ev) (hl : l.length ≤ maxLen) (hf0 : 0 ≤ fs) (hf1 : fs ≤ 1000000) (hw : evsW l) (w : World) (hR : Rdy w) (hI : RL KE w ad l) :
 Calls Tryz.prog 48 #[.int .i64 ag, .int .i64 fs, .slice ad l.length c] w fun e w' => e = .returned (.bool (numB ag fs l)) ∧ Below w.heap.size w w' := by
 unfold maxLen at hl
 have HC := Lib.hid (fun k hk => hI.ev k hk)
 obtain ⟨B, hB⟩ : ∃ B, numB ag fs l = B := ⟨_, rfl⟩
 rw [hB]
 have HNO := Lib.hid (fun k (hk : k < l.length) (h : ¬ (evB (evD l k) = true ∧ (evD l k).ag = ag ∧ (evD l k).sq = fs + (k : Int))) => show B = false from hB ▸ numB_no hk h)
 have HYES := Lib.hid (fun h : ∀ i, i < l.length → evB (evD l i) = true ∧ (evD l i).ag = ag ∧ (evD l i).sq = fs + (i : Int) => show B = true from hB ▸ numB_yes h)
 have HWF := Lib.hid (show ∀ k (hk : k < l.length), (l[k]).wf from fun k hk => hw _ (List.getElem_mem hk))
 have HRD := Lib.hid hR
 clear hI hB hw hR
 go_enter Tryz.func48, Tryz.ntmps48
 go_wp2_with fail
 go_loopw [11] (fun i wr => ∃ k : Nat, i = .int .i64 k ∧ k ≤ l.length ∧ Hid (∀ j, j < k → evB (evD l j) = true ∧ (evD l j).ag = ag ∧ (evD l j).sq = fs + (j : Int)) ∧ Hid (Below w.heap.size w wr)) (fun i _ => l.length - (RowKit.intOf i).toNat)
 case atStart => exact ⟨0, rfl, Nat.zero_le _, Lib.hid (fun j hj => by omega), Lib.hid (Below.refl _ _)⟩
 case round =>
  obtain ⟨k, rfl, hk, HO, HB⟩ := hrel
  by_cases hlt : k < l.length
  · have hki : (k : Int) < (l.length : Int) := by omega
    obtain ⟨xb, xo, rfl, _, hxc⟩ := HC.out k hlt
    obtain ⟨d0, d1, d2, d3, d4, d5, d6, d7, d8, d9, d10, d11⟩ := hxc wr HB.out
    have hik := fun W => at_ev8 xb xo l.length c k hlt W
    have HLT := Lib.hid hlt
    have hgd := evD_of hlt
    have HN := Lib.hid (fun h => HNO.out k hlt h)
    have HS := Lib.hid (show (evB (evD l k) = true ∧ (evD l k).ag = ag ∧ (evD l k).sq = fs + (k : Int)) → ∀ j, j < k + 1 → evB (evD l j) = true ∧ (evD l j).ag = ag ∧ (evD l j).sq = fs + (j : Int) from fun h j hj => by
     rcases Nat.lt_or_ge j k with h9 | h9
     · exact HO.out j h9
     · obtain rfl : j = k := by omega
       exact h)
    have HW := Lib.hid (HWF.out k hlt)
    rw [hgd] at HN HS
    generalize l[k]'hlt = x at *
    obtain ⟨w3, w4, V3, Z3, G3, V4, K4, B4, B3, Z4⟩ := evcopy9 wr x
    obtain ⟨g0, g0'⟩ := G3 0 (by decide)
    obtain ⟨g1, g1'⟩ := G3 1 (by decide)
    obtain ⟨g2, g2'⟩ := G3 2 (by decide)
    obtain ⟨g3, g3'⟩ := G3 3 (by decide)
    obtain ⟨g4, g4'⟩ := G3 4 (by decide)
    obtain ⟨g5, g5'⟩ := G3 5 (by decide)
    obtain ⟨g6, g6'⟩ := G3 6 (by decide)
    obtain ⟨g7, g7'⟩ := G3 7 (by decide)
    obtain ⟨g8, g8'⟩ := G3 8 (by decide)
    obtain ⟨g9, g9'⟩ := G3 9 (by decide)
    obtain ⟨g10, g10'⟩ := G3 10 (by decide)
    obtain ⟨g11, g11'⟩ := G3 11 (by decide)
    obtain ⟨e0, e1, e2, e3, e4, e5, e6, e7, e8, e9, e10, e11⟩ := CellsAt.ev K4
    have HB4 := Lib.hid (below_up8 HB.out B4)
    have HE := Lib.hid (event_u x HW.out w4 (HRD.out.below HB4.out))
    rw [Ev.val_mk] at HE
    clear hxc G3 K4 B4 B3 hgd hlt Z3
    have hkb : fs + (k : Int) ≤ 1000001 := by
     rcases Nat.eq_zero_or_pos k with h0 | h0
     · omega
     · obtain ⟨q1, _, q3⟩ := HO.out (k - 1) (by omega)
       have q4 := (evB_of q1).2.1
       omega
    have hws : IntKind.i64.wrap (fs + (k : Int)) = fs + (k : Int) := wrapq8 (by omega)
    clear hkb
    go_upto_region 4 with fail
    clear V3 V4 g0 g0' g1 g1' g2 g2' g3 g3' g4 g4' g5 g5' g6 g6' g7 g7' g8 g8' g9 g9' g10 g10' g11 g11' d0 d1 d2 d3 d4 d5 d6 d7 d8 d9 d10 d11
    by_cases hag : x.ag = ag
    · subst hag
      by_cases hsq : x.sq = fs + (k : Int)
      · have HSQ := Lib.hid hsq
        have hq : decide (x.sq = fs + (k : Int)) = true := decide_eq_true hsq
        have hq2 : (x.sq == fs + (k : Int)) = true := beq_iff_eq.2 hsq
        have hq3 : (x.sq != fs + (k : Int)) = false := by rw [bne, hq2]; rfl
        clear hsq
        cases hev : evB x with
        | true =>
         have HS2 := Lib.hid (HS.out ⟨hev, rfl, HSQ.out⟩)
         rw [hev] at HE
         clear hev HN HS
         go_wp2_with fail
         refine HE.out.mono ?_
         rintro e z ⟨rfl, hz⟩
         have HZ := Lib.hid (below_up8 HB4.out hz)
         clear hz e0 e1 e2 e3 e4 e5 e6 e7 e8 e9 e10 e11
         go_wp2_with fail
         go_roundw
         case rel => exact ⟨k + 1, by go_num, HLT.out, HS2, HZ⟩
         case measure => have := HLT.out; simp [RowKit.intOf]; omega
        | false =>
         have HF := Lib.hid (HN.out (fun h => by rw [hev] at h; cases h.1))
         rw [hev] at HE
         clear hev HN HS
         go_wp2_with fail
         refine HE.out.mono ?_
         rintro e z ⟨rfl, hz⟩
         have HZ := Lib.hid (below_up8 HB4.out hz)
         clear hz e0 e1 e2 e3 e4 e5 e6 e7 e8 e9 e10 e11
         go_wp2_with fail
         go_ret
         exact ⟨by rw [HF.out]; rfl, HZ.out⟩
      · have HF := Lib.hid (HN.out (fun h => hsq h.2.2))
        clear HN HS HE
        go_wp2_with fail
        go_ret
        exact ⟨by rw [HF.out]; rfl, HB4.out⟩
    · have HF := Lib.hid (HN.out (fun h => hag h.2.1))
      clear HN HS HE
      go_wp2_with fail
      go_ret
      exact ⟨by rw [HF.out]; rfl, HB4.out⟩
  · have hke : k = l.length := by omega
    have hki : ¬ (k : Int) < (l.length : Int) := by omega
    have HF := Lib.hid (HYES.out (fun j hj => HO.out j (by omega)))
    clear hke hlt
    go_wp2_with fail
    go_ret
    exact ⟨by rw [HF.out]; rfl, HB.out⟩
end Go.Proofs.YtnpfhcnjkekhbaaGreatDoor

namespace Go.Proofs.YtnpfhcnjkekhbaaGreatDoor
open Go Go.Proofs Go.RowKit Go.Lib
theorem minT_take {l : List Ev} {a q : Nat} (hq : a ≤ q) (hl : q < l.length) (ht : (evD l q).tr ≤ 1000) : minT ((l.drop a).take (q + 1 - a)) = min (minT ((l.drop a).take (q - a))) (evD l q).tr := by
 have e : q + 1 - a = (q - a) + 1 := by omega
 have hlt : q - a < (l.drop a).length := by rw [List.length_drop]; omega
 rw [e, List.take_succ_eq_append_getElem hlt]
 have hg : (l.drop a)[q - a] = evD l q := by
  rw [evD_of hl, List.getElem_drop]
  congr 1
  omega
 rw [hg]
 rcases minT_snoc ((l.drop a).take (q - a)) (evD l q) with h | h
 · exact h
 · omega
theorem minT_full {l : List Ev} {a q : Nat} (hq : l.length ≤ q) : minT ((l.drop a).take (q - a)) = minT (l.drop a) := by
 rw [List.take_of_length_le (by rw [List.length_drop]; omega)]
theorem lowsR9_any (ad : Option Addr) (c : Nat) (l : List Ev) (ad2 : Option Addr) (c2 : Nat) (x : List Int) (ad3 : Option Addr) (c3 : Nat) (shy : List Int) (hl : l.length ≤ 1000) (ht : ∀ e ∈ l, 0 ≤ e.tr ∧ e.tr ≤ 999) (hx : x.length ≤ 1000) (hxb : ∀ y ∈ x, 0 ≤ y ∧ y ≤ 1000) (hs : shy.length ≤ maxLen)
 (hb : ∀ i (h : i < shy.length), -9223372036854775808 ≤ shy[i] ∧ shy[i] ≤ 9223372036854775807) (w : World) (hI : RL KE w ad l) (hJ : RL KI w ad2 x) (hK : RL KI w ad3 shy) :
 Calls Tryz.prog 29 #[.slice ad l.length c, .slice ad2 x.length c2, .slice ad3 shy.length c3] w (IsPost w (lowL l x shy)) := by
 have hs2 := hs
 unfold maxLen at hs2
 have HE := Lib.hid (fun k hk => hI.ev k hk)
 have HX := Lib.hid (fun k hk => hJ.int k hk)
 have HS := Lib.hid (fun k hk => hK.int k hk)
 have HTR := Lib.hid (fun q (hq : q < l.length) => show 0 ≤ (evD l q).tr ∧ (evD l q).tr ≤ 999 from by rw [evD_of hq]; exact ht _ (List.getElem_mem hq))
 have HTT := Lib.hid (fun e (he : e ∈ l) => (ht e he).1)
 have HXB := Lib.hid (fun k (hk : k < x.length) => hxb _ (List.getElem_mem hk))
 have HSB := Lib.hid hb
 have HEK := Lib.hid (show ∀ k, k ≤ x.length → 0 ≤ endK x k ∧ endK x k ≤ 1000 * (k : Int) from fun k => by
  induction k with
  | zero => intro _; rw [endK_zero]; omega
  | succ k ih =>
   intro hk
   have h1 := ih (by omega)
   have h2 := hxb _ (List.getElem_mem (show k < x.length by omega))
   rw [endK_step (by omega)]
   omega)
 clear hI hJ hK ht hxb hb
 go_enter Tryz.func29, Tryz.ntmps29
 go_wp2_with fail
 go_loopw [7, 8, 9] (fun v a i wr => ∃ k : Nat, i = .int .i64 k ∧ k ≤ x.length ∧ a = .int .i64 (endK x k) ∧ ∃ yad yc, v = .slice yad k yc ∧ Hid (Own KI wr w.heap.size (.slice yad k yc) (lowP l x shy k)) ∧ Hid (Below w.heap.size w wr)) (fun _ _ i _ => x.length - (RowKit.intOf i).toNat)
 case atStart => exact ⟨0, rfl, Nat.zero_le _, rfl, none, 0, rfl, Lib.hid (Own.nil _ _ _), Lib.hid (Below.refl _ _)⟩
 case round =>
  obtain ⟨k, rfl, hk, rfl, yad, yc, rfl, HO, HB⟩ := hrel
  generalize wr = wx at *
  by_cases hlk : k < x.length
  · have hkk : (k : Int) < (x.length : Int) := by omega
    obtain ⟨xb, xo, rfl, _, hxc⟩ := HX.out k hlk
    have y0 := hxc wx HB.out
    have ixx := fun W => at_int8 xb xo x.length c2 k hlk W
    have hxk := HXB.out k hlk
    have HST := Lib.hid (lowP_step l x shy k)
    have hek := HEK.out k hk
    have HES := Lib.hid (endK_step hlk)
    have hlow := lowK_le l x shy k HTT.out
    generalize x[k]'hlk = xk at *
    have hws : IntKind.i64.wrap (endK x k + xk) = endK x k + xk := wrapq8 (by omega)
    obtain ⟨EK, hEK⟩ : ∃ EK, EK = endK x (k + 1) := ⟨_, rfl⟩
    have HEE := Lib.hid hEK
    have hee : EK = endK x k + xk := by rw [hEK]; exact HES.out
    have hEk0 : 0 ≤ EK ∧ EK ≤ 1000000000 := by omega
    have HLK := Lib.hid (show lowK l x shy k = if k < shy.length then max 0 (minT (l.drop EK.toNat) - pick8 (shy.getD k 0) 3) else minT (l.drop EK.toNat) from by rw [hEK]; rfl)
    have HLT := Lib.hid hlk
    have HLN := Lib.hid (show (lowP l x shy k).length + 1 ≤ 100000000 from by rw [lowP_len]; omega)
    have HPL := Lib.hid (lowP_len l x shy k)
    generalize lowP l x shy k = LP at *
    rw [← hee] at hws
    clear hxc hEK hlk HES hlow hxk
    go_upto_region 7 with fail
    rw [← hee]
    generalize endK x k = E0 at *
    clear hee y0 ixx hws
    obtain ⟨a, rfl⟩ := Int.eq_ofNat_of_zero_le hEk0.1
    rw [Int.toNat_natCast] at HLK
    go_wp2_with fail
    go_loopw [10, 11] (fun m j wq => ∃ q : Nat, j = .int .i64 q ∧ a ≤ q ∧ m = .int .i64 (minT ((l.drop a).take (q - a))) ∧ wq = wx) (fun _ j _ => l.length - (RowKit.intOf j).toNat)
    case atStart => exact ⟨a, rfl, Nat.le_refl _, by rw [Nat.sub_self]; rfl, rfl⟩
    case round =>
     obtain ⟨q, rfl, hq, rfl, rfl⟩ := hrel
     have hqb : q ≤ 1000000000 ∨ l.length ≤ q := by omega
     by_cases hlq : q < l.length
     · have hqq : (q : Int) < (l.length : Int) := by omega
       obtain ⟨eb, eo, rfl, _, hec⟩ := HE.out q hlq
       have e4 := (hec wr HB.out).2.2.2.2.1
       rw [← evD_of hlq] at e4
       have ixe := fun W => at_ev8 eb eo l.length c q hlq W
       have htr := HTR.out q hlq
       have HMT := Lib.hid (minT_take hq hlq (by omega))
       have HLQ := Lib.hid hlq
       generalize (evD l q).tr = TR at *
       generalize minT ((l.drop a).take (q - a)) = M0 at *
       clear hec hlq
       rcases Int.lt_or_le TR M0 with hm | hm
       · have hi1 : ¬ M0 ≤ TR := by omega
         have hmin : min M0 TR = TR := by omega
         rw [hmin] at HMT
         clear hmin
         go_wp2_with fail
         go_roundw
         case rel => exact ⟨q + 1, by go_num, by omega, by rw [HMT.out], by first | rfl | trivial⟩
         case measure => have h9 := HLQ.out; simp [RowKit.intOf]; omega
       · have hmin : min M0 TR = M0 := by omega
         rw [hmin] at HMT
         clear hmin
         go_wp2_with fail
         go_roundw
         case rel => exact ⟨q + 1, by go_num, by omega, by rw [HMT.out], by first | rfl | trivial⟩
         case measure => have h9 := HLQ.out; simp [RowKit.intOf]; omega
     · have hqq : ¬ (q : Int) < (l.length : Int) := by omega
       have hmf := minT_full (l := l) (a := a) (q := q) (by omega)
       rw [hmf]
       have hmb := minT_bd (l.drop a) fun e he => HTT.out e (List.mem_of_mem_drop he)
       generalize minT (l.drop a) = MT at *
       clear hmf hlq hqb
       by_cases hsk : k < shy.length
       · have hss : (k : Int) < (shy.length : Int) := by omega
         obtain ⟨sb, so, rfl, _, hsc⟩ := HS.out k hsk
         have s0 := hsc wr HB.out
         have ixs := fun W => at_int8 sb so shy.length c3 k hsk W
         have hsb := HSB.out k hsk
         have hgd : shy.getD k 0 = shy[k]'hsk := by rw [List.getD_eq_getElem?_getD, List.getElem?_eq_getElem hsk]; rfl
         rw [if_pos hsk, hgd] at HLK
         generalize shy[k]'hsk = sk at *
         have HPK := Lib.hid (fun W => pickR9_any sk 3 hsb.1 hsb.2 (by decide) (by decide) W)
         have p0 := pick8_lo (c := sk) (n := 3) (by decide)
         have p1 := pick8_hi (c := sk) (n := 3) (by decide)
         generalize pick8 sk 3 = PK at *
         have hwm : IntKind.i64.wrap (MT - PK) = MT - PK := wrapq8 (by omega)
         clear hsc hsk hgd
         rcases Int.lt_or_le 0 (MT - PK) with hm | hm
         rotate_left
         · have hi1 : MT - PK ≤ 0 := hm
           have hi2 : MT ≤ PK := by omega
           have HLW := Lib.hid (show lowK l x shy k = 0 from by rw [HLK.out]; omega)
           obtain ⟨wB, VB, ZB, KB, BB⟩ := lay8 wr [.int .i64 (0)] 3
           have VB := (show wr.alloc (.cells #[.int .i64 (0)] 3) = wB from VB)
           have KB := Lib.hid (show CellsAt wB wr.heap.size (KI.cs (0)) from KB)
           have BB := Lib.hid BB
           have hz5 : w.heap.size ≤ wr.heap.size := HB.out.size
           go_wp2_with (first | (go_at_call 42; refine (HPK.out _).mono ?_; rintro e z ⟨rfl, rfl⟩) | (at_builtin; refine walk_push8 KI (w0 := wB) rfl _ _ rfl w.heap.size (.slice yad k yc) LP (0) rfl (HO.out.below BB.out (Nat.le_refl _)) (Below.refl _ _) (by omega) _ 1 rfl KB.out HLN.out ?_; intro v9 w9 ho9 hb9 hg9 hk9))
           have HB9 := Lib.hid (show Below w.heap.size w w9 from (HB.out.trans (BB.out.mono hz5)).trans hb9)
           obtain ⟨yad9, yc9, e9, _⟩ := ho9.form
           have hl9 : (LP ++ [0]).length = k + 1 := by rw [List.length_append, HPL.out]; rfl
           rw [hl9] at e9
           subst e9
           have HO9 := Lib.hid ho9
           clear ho9 hb9 hg9 hk9 VB
           go_roundw
           case rel => exact ⟨k + 1, by go_num, HLT.out, by rw [HEE.out], yad9, yc9, rfl, Lib.hid (by rw [HST.out, HLW.out]; exact HO9.out), HB9⟩
           case measure => have h9 := HLT.out; simp [RowKit.intOf]; omega
         · have hi1 : ¬ MT - PK ≤ 0 := by omega
           have hi2 : ¬ MT ≤ PK := by omega
           have HLW := Lib.hid (show lowK l x shy k = MT - PK from by rw [HLK.out]; omega)
           obtain ⟨wB, VB, ZB, KB, BB⟩ := lay8 wr [.int .i64 (MT - PK)] 3
           have VB := (show wr.alloc (.cells #[.int .i64 (MT - PK)] 3) = wB from VB)
           have KB := Lib.hid (show CellsAt wB wr.heap.size (KI.cs (MT - PK)) from KB)
           have BB := Lib.hid BB
           have hz5 : w.heap.size ≤ wr.heap.size := HB.out.size
           go_wp2_with (first | (go_at_call 42; refine (HPK.out _).mono ?_; rintro e z ⟨rfl, rfl⟩) | (at_builtin; refine walk_push8 KI (w0 := wB) rfl _ _ rfl w.heap.size (.slice yad k yc) LP (MT - PK) rfl (HO.out.below BB.out (Nat.le_refl _)) (Below.refl _ _) (by omega) _ 1 rfl KB.out HLN.out ?_; intro v9 w9 ho9 hb9 hg9 hk9))
           have HB9 := Lib.hid (show Below w.heap.size w w9 from (HB.out.trans (BB.out.mono hz5)).trans hb9)
           obtain ⟨yad9, yc9, e9, _⟩ := ho9.form
           have hl9 : (LP ++ [MT - PK]).length = k + 1 := by rw [List.length_append, HPL.out]; rfl
           rw [hl9] at e9
           subst e9
           have HO9 := Lib.hid ho9
           clear ho9 hb9 hg9 hk9 VB
           go_roundw
           case rel => exact ⟨k + 1, by go_num, HLT.out, by rw [HEE.out], yad9, yc9, rfl, Lib.hid (by rw [HST.out, HLW.out]; exact HO9.out), HB9⟩
           case measure => have h9 := HLT.out; simp [RowKit.intOf]; omega
       · have hss : ¬ (k : Int) < (shy.length : Int) := by omega
         rw [if_neg hsk] at HLK
         clear hsk
         have HPK := HLN
         have HLW := Lib.hid (show lowK l x shy k = MT from HLK.out)
         obtain ⟨wB, VB, ZB, KB, BB⟩ := lay8 wr [.int .i64 (MT)] 3
         have VB := (show wr.alloc (.cells #[.int .i64 (MT)] 3) = wB from VB)
         have KB := Lib.hid (show CellsAt wB wr.heap.size (KI.cs (MT)) from KB)
         have BB := Lib.hid BB
         have hz5 : w.heap.size ≤ wr.heap.size := HB.out.size
         go_wp2_with (first | (go_at_call 42; refine (HPK.out _).mono ?_; rintro e z ⟨rfl, rfl⟩) | (at_builtin; refine walk_push8 KI (w0 := wB) rfl _ _ rfl w.heap.size (.slice yad k yc) LP (MT) rfl (HO.out.below BB.out (Nat.le_refl _)) (Below.refl _ _) (by omega) _ 1 rfl KB.out HLN.out ?_; intro v9 w9 ho9 hb9 hg9 hk9))
         have HB9 := Lib.hid (show Below w.heap.size w w9 from (HB.out.trans (BB.out.mono hz5)).trans hb9)
         obtain ⟨yad9, yc9, e9, _⟩ := ho9.form
         have hl9 : (LP ++ [MT]).length = k + 1 := by rw [List.length_append, HPL.out]; rfl
         rw [hl9] at e9
         subst e9
         have HO9 := Lib.hid ho9
         clear ho9 hb9 hg9 hk9 VB
         go_roundw
         case rel => exact ⟨k + 1, by go_num, HLT.out, by rw [HEE.out], yad9, yc9, rfl, Lib.hid (by rw [HST.out, HLW.out]; exact HO9.out), HB9⟩
         case measure => have h9 := HLT.out; simp [RowKit.intOf]; omega
  · obtain rfl : k = x.length := by omega
    have hkk : ¬ (x.length : Int) < (x.length : Int) := by omega
    have HF := Lib.hid (show IsPost w (lowL l x shy) (.returned (.slice yad x.length yc)) wx from Own.is9 HB.out HO.out)
    clear hlk
    go_wp2_with fail
    go_ret
    exact HF.out
end Go.Proofs.YtnpfhcnjkekhbaaGreatDoor
