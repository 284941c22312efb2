/-
  Layer 8: the law's same and few.
-/
import Derived.Test.YtamefmojocegkaaDoorM00
import Derived.Laws.StructEq
import Derived.Deep.RegionHeld3
import Derived.Lib.QuietBelow
import Derived.Deep.DeepCutAuto
import Derived.WalkKit
import Derived.WalkLawsBesides
import Derived.Outline
import Derived.Lib.Hide
import Derived.Below
import Derived.BigQuiet
import Derived.Deep.QuietTactic
import Derived.Laws.Rows
import Derived.Laws.OwnMore
import Derived.OwnWalk
import Derived.StillTail
namespace Go.Proofs.YtamefmojocegkaaDoor
open Go Go.Proofs Go.RowKit Go.Lib

def C4.eqB (x y : C4) : Bool := decide (x.f = y.f ∧ x.t = y.t ∧ x.w = y.w ∧ x.a = y.a)
theorem C4.eqB_iff {x y : C4} : x.eqB y = true ↔ x = y := by
  unfold C4.eqB
  rw [decide_eq_true_eq]
  rcases x with ⟨a1, a2, a3, a4⟩
  rcases y with ⟨b1, b2, b3, b4⟩
  constructor
  · rintro ⟨h1, h2, h3, h4⟩
    dsimp only at h1 h2 h3 h4
    subst h1 h2 h3 h4
    rfl
  · intro h
    injection h with h1 h2 h3 h4
    exact ⟨h1, h2, h3, h4⟩
set_option maxRecDepth 100000 in
set_option maxHeartbeats 8000000 in
theorem same_any (a1 a2 : Option Addr) (c1 c2 : Nat) (l m : List C4) (hl : l.length ≤ maxLen) (w : World) (h1 : RL KC w a1 l) (h2 : RL KC w a2 m) :
    Calls Tryd.prog 20 #[.slice a1 l.length c1, .slice a2 m.length c2] w fun e w' => e = .returned (.bool (decide (l = m))) ∧ Below w.heap.size w w' := by
  unfold maxLen at hl
  obtain ⟨R, hR⟩ : ∃ R, decide (l = m) = R := ⟨_, rfl⟩
  rw [hR]
  have HNO := Lib.hid (fun h : ¬ l = m => show R = false by rw [← hR]; exact decide_eq_false h)
  have HYES := Lib.hid (fun h : l = m => show R = true by rw [← hR]; exact decide_eq_true h)
  have HC := Lib.hid (fun k hk => h1.c4 k hk); have HD := Lib.hid (fun k hk => h2.c4 k hk)
  clear hR h1 h2
  go_enter Tryd.func20, Tryd.ntmps20
  by_cases hlen : l.length = m.length
  · have e0 : ((l.length : Int) != (m.length : Int)) = false := by rw [hlen]; simp
    have HLEN := Lib.hid hlen
    clear hlen
    go_wp2_with fail
    go_loopw [5] (fun i wr => ∃ k : Nat, k ≤ l.length ∧ i = .int .i64 k ∧ Hid (∀ j (hj : j < l.length) (hj2 : j < m.length), j < k → l[j] = m[j]) ∧ Hid (Below w.heap.size w wr)) (fun i _ => l.length - (RowKit.intOf i).toNat)
    case atStart => exact ⟨0, Nat.zero_le _, rfl, Lib.hid (fun j _ _ h => absurd h (Nat.not_lt_zero _)), Lib.hid (Below.refl _ _)⟩
    case round =>
      obtain ⟨k, hk, rfl, HK, HB⟩ := hrel
      by_cases hlt : k < l.length
      · have hki : (k : Int) < (l.length : Int) := by omega
        have hlt2 : k < m.length := by have := HLEN.out; omega
        have hkm : (k : Int) < (m.length : Int) := by omega
        obtain ⟨b, o, rfl, hb, cc⟩ := HC.out k hlt
        obtain ⟨b2, o2, rfl, hb2, cd⟩ := HD.out k hlt2
        have i1 := fun W => at_c4 b o l.length c1 k hlt W
        have i2 := fun W => at_c4 b2 o2 m.length c2 k hlt2 W
        have HST := Lib.hid (show l[k] = m[k] → ∀ j (hj : j < l.length) (hj2 : j < m.length), j < k + 1 → l[j] = m[j] from fun h j hj hj2 hjk => by
          rcases Nat.lt_or_ge j k with h9 | h9
          · exact HK.out j hj hj2 h9
          · have : j = k := by omega
            subst this; exact h)
        have HNE := Lib.hid (show l[k] ≠ m[k] → R = false from fun h => HNO.out (fun e => h (by congr 1)))
        have HLT := Lib.hid hlt
        have HCC := Lib.hid (fun W (bw : Below wr.heap.size wr W) => cc W (HB.out.trans (bw.mono HB.out.size)))
        have HDD := Lib.hid (fun W (bw : Below wr.heap.size wr W) => cd W (HB.out.trans (bw.mono HB.out.size)))
        generalize l[k]'hlt = x at *
        generalize m[k]'hlt2 = y at *
        clear cc cd hlt hlt2 hb hb2
        have heq := fun W => eq_c4 x.f x.t x.w x.a y.f y.t y.w y.a W
        go_upto_region 6 with fail
        refine wp_region_noPanic ?_
        refine wp_region_Kx (C := Grew wr) [8] 8 #[false, false, false, false, false, false, false, false, false] (by kernel_rfl) (by kernel_rfl) (by kernel_rfl) (grew0 _) ?_
        intro wx hwx
        refine wpAnyK_ex (i := 0) rfl (by kernel_rfl) (listed' := #[true, false, false, false, false, false, false, false, false]) rfl (fun _ _ _ _ _ h => h) hwx ?_
        apply Exists.intro
        refine ⟨⟨by rfl, fun wy hw => ?_⟩, ?_⟩
        · (have bw := hw.below; go_simp; try (first | (with_reducible rfl) | (with_reducible exact ⟨rfl, rfl⟩)))
        try simp only [Act.put]
        refine wpAnyK_ex (i := 1) rfl (by kernel_rfl) (listed' := #[true, true, false, false, false, false, false, false, false]) rfl (fun _ _ _ _ _ h => h) hwx ?_
        apply Exists.intro
        refine ⟨⟨by rfl, fun wy hw => ?_⟩, ?_⟩
        · (have bw := hw.below; go_simp; try (first | (with_reducible rfl) | (with_reducible exact ⟨rfl, rfl⟩)))
        try simp only [Act.put]
        refine wpAnyK_ex (i := 2) rfl (by kernel_rfl) (listed' := #[true, true, true, false, false, false, false, false, false]) rfl (fun _ _ _ _ _ h => h) hwx ?_
        apply Exists.intro
        refine ⟨⟨by rfl, fun wy hw => ?_⟩, ?_⟩
        · (have bw := hw.below; go_simp; try (first | (with_reducible rfl) | (with_reducible exact ⟨rfl, rfl⟩)))
        try simp only [Act.put]
        refine wpAnyK_ex (i := 3) rfl (by kernel_rfl) (listed' := #[true, true, true, true, false, false, false, false, false]) rfl (fun _ _ _ _ _ h => h) hwx ?_
        apply Exists.intro
        refine ⟨⟨by rfl, fun wy hw => ?_⟩, ?_⟩
        · (have bw := hw.below; obtain ⟨e0, e1, e2, e3⟩ := HCC.out _ bw; go_simp; try (first | (with_reducible rfl) | (with_reducible exact ⟨rfl, rfl⟩)))
        try simp only [Act.put]
        refine wpAnyK_ex (i := 4) rfl (by kernel_rfl) (listed' := #[true, true, true, true, true, false, false, false, false]) rfl (fun _ _ _ _ _ h => h) hwx ?_
        apply Exists.intro
        refine ⟨⟨by rfl, fun wy hw => ?_⟩, ?_⟩
        · (have bw := hw.below; go_simp; try (first | (with_reducible rfl) | (with_reducible exact ⟨rfl, rfl⟩)))
        try simp only [Act.put]
        refine wpAnyK_ex (i := 5) rfl (by kernel_rfl) (listed' := #[true, true, true, true, true, true, false, false, false]) rfl (fun _ _ _ _ _ h => h) hwx ?_
        apply Exists.intro
        refine ⟨⟨by rfl, fun wy hw => ?_⟩, ?_⟩
        · (have bw := hw.below; go_simp; try (first | (with_reducible rfl) | (with_reducible exact ⟨rfl, rfl⟩)))
        try simp only [Act.put]
        refine wpAnyK_ex (i := 6) rfl (by kernel_rfl) (listed' := #[true, true, true, true, true, true, true, false, false]) rfl (fun _ _ _ _ _ h => h) hwx ?_
        apply Exists.intro
        refine ⟨⟨by rfl, fun wy hw => ?_⟩, ?_⟩
        · (have bw := hw.below; go_simp; try (first | (with_reducible rfl) | (with_reducible exact ⟨rfl, rfl⟩)))
        try simp only [Act.put]
        refine wpAnyK_ex (i := 7) rfl (by kernel_rfl) (listed' := #[true, true, true, true, true, true, true, true, false]) rfl (fun _ _ _ _ _ h => h) hwx ?_
        apply Exists.intro
        refine ⟨⟨by rfl, fun wy hw => ?_⟩, ?_⟩
        · (have bw := hw.below; obtain ⟨e0, e1, e2, e3⟩ := HDD.out _ bw; go_simp; try (first | (with_reducible rfl) | (with_reducible exact ⟨rfl, rfl⟩)))
        try simp only [Act.put]
        refine wpAnyK_end (by kernel_rfl) ?_
        try simp only [pickOps, List.filterMap_cons, List.filterMap_nil, List.getElem?_toArray, List.getElem?_cons_succ, List.getElem?_cons_zero]
        have HBX := Lib.hid (HB.out.trans (hwx.below.mono HB.out.size))
        clear hwx
        cases hxy : decide (x.f = y.f ∧ x.t = y.t ∧ x.w = y.w ∧ x.a = y.a) with
        | true =>
          have HZ := Lib.hid (HST.out (C4.eqB_iff.1 hxy))
          rw [hxy] at heq
          go_wp2_with fail
          refine NoPanic.normal ?_
          go_wp2_with fail
          go_roundw
          case rel => exact ⟨k + 1, HLT.out, by go_num, HZ, HBX⟩
          case measure => have h9 := HLT.out; simp [RowKit.intOf]; omega
        | false =>
          have HZ := Lib.hid (HNE.out (fun e => by have := C4.eqB_iff.2 e; unfold C4.eqB at this; rw [hxy] at this; cases this))
          rw [hxy] at heq
          go_wp2_with fail
          refine NoPanic.normal ?_
          go_wp2_with fail
          go_ret
          exact ⟨by rw [HZ.out]; rfl, HBX.out⟩
      · obtain rfl : k = l.length := by omega
        have HF := Lib.hid (HYES.out (List.ext_getElem HLEN.out (fun j h1 h2 => HK.out j h1 h2 h1)))
        have hki : ¬ (l.length : Int) < (l.length : Int) := by omega
        go_wp2_with fail
        go_ret
        exact ⟨by rw [HF.out]; rfl, HB.out⟩
  · have e0 : ((l.length : Int) != (m.length : Int)) = true := by rw [bne_iff_ne]; omega
    have HF := Lib.hid (HNO.out (fun e => hlen (by rw [e])))
    go_wp2_with fail
    go_ret
    exact ⟨by rw [HF.out]; rfl, Below.refl _ _⟩
end Go.Proofs.YtamefmojocegkaaDoor

namespace Go.Proofs.YtamefmojocegkaaDoor
open Go Go.Proofs Go.RowKit Go.Lib

def fewF (f : Fl) : Fl := ⟨f.dr.take 8, f.lat, f.lia, f.sv.take 14, f.tm.take 10⟩
def FewPost (w : World) (f : Fl) (e : Ending) (w' : World) : Prop := ∃ v, e = .returned v ∧ FlAt w' v f ∧ Below w.heap.size w w'
theorem ints_elem8 : Tryd.prog.underlying 22 = some (.slice (Tryd.prog.elem 22)) := by kernel_rfl
theorem ints_cells8 (w : World) : (Go.sizeOf (Tryd.prog.elem 22)).run Tryd.prog w = .ok 1 w := by kernel_rfl
theorem add0_8 (x : Addr) : x.add 0 = x := by
  rcases x with ⟨b, o, s⟩
  unfold Addr.add
  split <;> simp_all
theorem slice_to8 (ad : Option Addr) (n c k : Nat) (hk : k ≤ c) (w : World) : (Instr.slice 22 (.slice ad n c) none (some (.int .i64 (k : Int))) none).run Tryd.prog w = .ok (.slice ad k c) w := by
  rw [run_slice_h w _ _ _ _ ints_elem8 .i64 _ (by omega) (by omega), ints_cells8]
  simp only [Result.andThen, sliced]
  have e : (ad.map fun x => x.add (0 * 1)) = ad := by cases ad <;> simp [add0_8]
  rw [e]
  simp
set_option maxRecDepth 100000 in
set_option maxHeartbeats 8000000 in
theorem few_any (a1 a2 a3 : Option Addr) (c1 c2 c3 : Nat) (f : Fl) (hfit : f.dr.length ≤ maxLen ∧ f.sv.length ≤ maxLen ∧ f.tm.length ≤ maxLen) (hc1 : f.dr.length ≤ c1) (hc2 : f.sv.length ≤ c2) (hc3 : f.tm.length ≤ c3) (w : World) (r1 : RL KI w a1 f.dr) (r2 : RL KI w a2 f.sv) (r3 : RL KI w a3 f.tm) :
    Calls Tryd.prog 11 #[.agg #[.slice a1 f.dr.length c1, .int .i64 f.lat, .int .i64 f.lia, .slice a2 f.sv.length c2, .slice a3 f.tm.length c3]] w (FewPost w (fewF f)) := by
  obtain ⟨h1, h2, h3⟩ := hfit
  unfold maxLen at h1 h2 h3
  obtain ⟨dr, lat, lia, sv, tm⟩ := f
  dsimp only at *
  have HR1 := Lib.hid r1; have HR2 := Lib.hid r2; have HR3 := Lib.hid r3
  obtain ⟨n1, hn1⟩ : ∃ n1, (dr.take 8).length = n1 := ⟨_, rfl⟩
  obtain ⟨n2, hn2⟩ : ∃ n2, (sv.take 14).length = n2 := ⟨_, rfl⟩
  obtain ⟨n3, hn3⟩ : ∃ n3, (tm.take 10).length = n3 := ⟨_, rfl⟩
  have HN1 := Lib.hid hn1; have HN2 := Lib.hid hn2; have HN3 := Lib.hid hn3
  have HM1 := Lib.hid (show n1 = if dr.length < 8 then dr.length else 8 by rw [← hn1, take_len8])
  have HM2 := Lib.hid (show n2 = if sv.length < 14 then sv.length else 14 by rw [← hn2, take_len8])
  have HM3 := Lib.hid (show n3 = if tm.length < 10 then tm.length else 10 by rw [← hn3, take_len8])
  clear r1 r2 r3 hn1 hn2 hn3
  obtain ⟨w1, V1, Z1, K1, B1⟩ := lay8 w [.slice a1 dr.length c1, .int .i64 lat, .int .i64 lia, .slice a2 sv.length c2, .slice a3 tm.length c3] 24
  obtain ⟨w2, V2, Z2, K2, B2⟩ := lay8 w1 [.slice none 0 0, .int .i64 0, .int .i64 0, .slice none 0 0, .slice none 0 0] 24
  rw [Z1] at Z2 K2 B2
  have HF := Lib.hid (K1.up B2 (by omega))
  have HG := Lib.hid K2
  have HB := Lib.hid (show Below w.heap.size w w2 from B1.trans (B2.mono (by omega)))
  go_enter Tryd.func11, Tryd.ntmps11
  go_upto_region 1 with fail
  clear V1 V2 K1 K2 B1 B2
  have hc := HF.out
  obtain ⟨x1, x2⟩ := hc 0 (by simp)
  simp only [List.getElem_cons_zero] at x1
  go_cut [1] from 3 to 10 (fun s1 wx => s1 = .pointer (some ⟨w.heap.size, 0, none⟩) ∧ Hid (CellsAt wx w.heap.size [.slice a1 n1 c1, .int .i64 lat, .int .i64 lia, .slice a2 sv.length c2, .slice a3 tm.length c3]) ∧ Hid (CellsAt wx (w.heap.size + 1) [.slice none 0 0, .int .i64 0, .int .i64 0, .slice none 0 0, .slice none 0 0]) ∧ Hid (Below w.heap.size w wx))
  case first =>
    rcases (show dr.length ≤ 8 ∨ 8 < dr.length by omega) with hlt | hge
    · have e : n1 = dr.length := by have := HM1.out; split at this <;> omega
      have hi1 : (dr.length : Int) ≤ 8 := by omega
      have hsl := fun W => slice_to8 a1 dr.length c1 dr.length (by omega) W
      go_wp2_with fail
      all_goals (go_meet)
      all_goals (exact ⟨rfl, Lib.hid (by rw [e]; exact hc.put 0 _), Lib.hid (HG.out.far (by omega)), Lib.hid (HB.out.setCell (Nat.le_refl _) _)⟩)
    · have e : n1 = 8 := by have := HM1.out; split at this <;> omega
      have hi1 : ¬ (dr.length : Int) ≤ 8 := by omega
      have hsl := fun W => slice_to8 a1 dr.length c1 8 (by omega) W
      go_wp2_with fail
      all_goals (go_meet)
      all_goals (exact ⟨rfl, Lib.hid (by rw [e]; exact hc.put 0 _), Lib.hid (HG.out.far (by omega)), Lib.hid (HB.out.setCell (Nat.le_refl _) _)⟩)
  case rest =>
    obtain ⟨rfl, HF2, HG2, HB2⟩ := hcut
    generalize wc = w3 at *
    clear hc x1 x2 HF HG HB
    have HF := HF2; have HG := HG2; have HB := HB2
    clear HF2 HG2 HB2
    have hc := HF.out
    obtain ⟨x1, x2⟩ := hc 3 (by simp)
    simp only [List.getElem_cons_zero, List.getElem_cons_succ] at x1
    go_upto_region 2 with fail
    go_cut [1] from 11 to 18 (fun s1 wx => s1 = .pointer (some ⟨w.heap.size, 0, none⟩) ∧ Hid (CellsAt wx w.heap.size [.slice a1 n1 c1, .int .i64 lat, .int .i64 lia, .slice a2 n2 c2, .slice a3 tm.length c3]) ∧ Hid (CellsAt wx (w.heap.size + 1) [.slice none 0 0, .int .i64 0, .int .i64 0, .slice none 0 0, .slice none 0 0]) ∧ Hid (Below w.heap.size w wx))
    case first =>
      rcases (show sv.length ≤ 14 ∨ 14 < sv.length by omega) with hlt | hge
      · have e : n2 = sv.length := by have := HM2.out; split at this <;> omega
        have hi1 : (sv.length : Int) ≤ 14 := by omega
        have hsl := fun W => slice_to8 a2 sv.length c2 sv.length (by omega) W
        go_wp2_with fail
        all_goals (go_meet)
        all_goals (exact ⟨rfl, Lib.hid (by rw [e]; exact hc.put 3 _), Lib.hid (HG.out.far (by omega)), Lib.hid (HB.out.setCell (Nat.le_refl _) _)⟩)
      · have e : n2 = 14 := by have := HM2.out; split at this <;> omega
        have hi1 : ¬ (sv.length : Int) ≤ 14 := by omega
        have hsl := fun W => slice_to8 a2 sv.length c2 14 (by omega) W
        go_wp2_with fail
        all_goals (go_meet)
        all_goals (exact ⟨rfl, Lib.hid (by rw [e]; exact hc.put 3 _), Lib.hid (HG.out.far (by omega)), Lib.hid (HB.out.setCell (Nat.le_refl _) _)⟩)
    case rest =>
      obtain ⟨rfl, HF2, HG2, HB2⟩ := hcut
      generalize wc = w4 at *
      clear hc x1 x2 HF HG HB
      have HF := HF2; have HG := HG2; have HB := HB2
      clear HF2 HG2 HB2
      have hc := HF.out
      obtain ⟨x1, x2⟩ := hc 4 (by simp)
      simp only [List.getElem_cons_zero, List.getElem_cons_succ] at x1
      go_upto_region 3 with fail
      go_cut [1] from 19 to 26 (fun s1 wx => s1 = .pointer (some ⟨w.heap.size, 0, none⟩) ∧ Hid (CellsAt wx w.heap.size [.slice a1 n1 c1, .int .i64 lat, .int .i64 lia, .slice a2 n2 c2, .slice a3 n3 c3]) ∧ Hid (CellsAt wx (w.heap.size + 1) [.slice none 0 0, .int .i64 0, .int .i64 0, .slice none 0 0, .slice none 0 0]) ∧ Hid (Below w.heap.size w wx))
      case first =>
        rcases (show tm.length ≤ 10 ∨ 10 < tm.length by omega) with hlt | hge
        · have e : n3 = tm.length := by have := HM3.out; split at this <;> omega
          have hi1 : (tm.length : Int) ≤ 10 := by omega
          have hsl := fun W => slice_to8 a3 tm.length c3 tm.length (by omega) W
          go_wp2_with fail
          all_goals (go_meet)
          all_goals (exact ⟨rfl, Lib.hid (by rw [e]; exact hc.put 4 _), Lib.hid (HG.out.far (by omega)), Lib.hid (HB.out.setCell (Nat.le_refl _) _)⟩)
        · have e : n3 = 10 := by have := HM3.out; split at this <;> omega
          have hi1 : ¬ (tm.length : Int) ≤ 10 := by omega
          have hsl := fun W => slice_to8 a3 tm.length c3 10 (by omega) W
          go_wp2_with fail
          all_goals (go_meet)
          all_goals (exact ⟨rfl, Lib.hid (by rw [e]; exact hc.put 4 _), Lib.hid (HG.out.far (by omega)), Lib.hid (HB.out.setCell (Nat.le_refl _) _)⟩)
      case rest =>
        obtain ⟨rfl, HF2, HG2, HB2⟩ := hcut
        generalize wc = w5 at *
        clear hc x1 x2 HF HG HB
        have HF := HF2; have HG := HG2; have HB := HB2
        clear HF2 HG2 HB2
        have hf := HF.out
        obtain ⟨x01, x02⟩ := hf 0 (by simp); obtain ⟨x11, x12⟩ := hf 1 (by simp); obtain ⟨x21, x22⟩ := hf 2 (by simp); obtain ⟨x31, x32⟩ := hf 3 (by simp); obtain ⟨x41, x42⟩ := hf 4 (by simp)
        have hg := HG.out
        obtain ⟨y01, y02⟩ := hg 0 (by simp); obtain ⟨y11, y12⟩ := hg 1 (by simp); obtain ⟨y21, y22⟩ := hg 2 (by simp); obtain ⟨y31, y32⟩ := hg 3 (by simp); obtain ⟨y41, y42⟩ := hg 4 (by simp)
        have HK := Lib.hid ((((((hg.put 0 (.slice a1 n1 c1)).put 1 (.int .i64 lat)).put 2 (.int .i64 lia)).put 3 (.slice a2 n2 c2)).put 4 (.slice a3 n3 c3)))
        have HBX := Lib.hid ((((((HB.out.setCell (p := ⟨w.heap.size + 1, 0, none⟩) (Nat.le_succ _) (.slice a1 n1 c1)).setCell (p := ⟨w.heap.size + 1, 1, none⟩) (Nat.le_succ _) (.int .i64 lat)).setCell (p := ⟨w.heap.size + 1, 2, none⟩) (Nat.le_succ _) (.int .i64 lia)).setCell (p := ⟨w.heap.size + 1, 3, none⟩) (Nat.le_succ _) (.slice a2 n2 c2)).setCell (p := ⟨w.heap.size + 1, 4, none⟩) (Nat.le_succ _) (.slice a3 n3 c3)))
        clear hf hg
        go_wp2_with fail
        obtain ⟨WF, hWF⟩ : ∃ WF, WF = (((((w5.setCell ⟨w.heap.size + 1, 0, none⟩ (.slice a1 n1 c1)).setCell ⟨w.heap.size + 1, 1, none⟩ (.int .i64 lat)).setCell ⟨w.heap.size + 1, 2, none⟩ (.int .i64 lia)).setCell ⟨w.heap.size + 1, 3, none⟩ (.slice a2 n2 c2)).setCell ⟨w.heap.size + 1, 4, none⟩ (.slice a3 n3 c3)) := ⟨_, rfl⟩
        rw [← hWF] at HK HBX ⊢
        have hk := HK.out
        clear x01 x02 x11 x12 x21 x22 x31 x32 x41 x42 y01 y02 y11 y12 y21 y22 y31 y32 y41 y42 hWF
        obtain ⟨g0, _⟩ := hk 0 (by simp); obtain ⟨g1, _⟩ := hk 1 (by simp); obtain ⟨g2, _⟩ := hk 2 (by simp); obtain ⟨g3, _⟩ := hk 3 (by simp); obtain ⟨g4, _⟩ := hk 4 (by simp)
        clear hk
        simp only [List.set_cons_zero, List.set_cons_succ, List.getElem_cons_zero, List.getElem_cons_succ] at g0 g1 g2 g3 g4
        exact bodyPost_ret (v := .agg #[.slice a1 n1 c1, .int .i64 lat, .int .i64 lia, .slice a2 n2 c2, .slice a3 n3 c3]) (by simp [results, Tryd.results11, go_sem, g0, g1, g2, g3, g4]) rfl
          ⟨_, rfl, ⟨a1, c1, a2, c2, a3, c3, by unfold fewF; dsimp only; rw [HN1.out, HN2.out, HN3.out], (HR1.out.take8 8).below HBX.out, (HR2.out.take8 14).below HBX.out, (HR3.out.take8 10).below HBX.out⟩, HBX.out⟩
end Go.Proofs.YtamefmojocegkaaDoor
