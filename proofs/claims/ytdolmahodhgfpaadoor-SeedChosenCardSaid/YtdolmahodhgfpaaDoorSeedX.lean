/-
  The contracts of package seed's list (ascending, exchange), of shuffle, of slices.Clone at that list, and of Sample and Shuffle.
-/
import Derived.Test.YtdolmahodhgfpaaDoorSeedW
import Derived.Test.YtdolmahodhgfpaaDoorSeedG
import Derived.Test.YtdolmahodhgfpaaDoorSeedH
import Derived.RegionTactic
import Derived.Laws.Pointers
import Derived.ChangeAlike
namespace Go.Proofs.YtdolmahodhgfpaaDoor
open Go Go.Proofs Go.RowKit Go.Lib

/-! ### ascending -/
theorem list_elem6 : Tryd.prog.underlying 53 = some (.slice (Tryd.prog.elem 53)) := by kernel_rfl
theorem list_cells6 (w : World) : (Go.sizeOf (Tryd.prog.elem 53)).run Tryd.prog w = .ok 1 w := by kernel_rfl
theorem at_list6 (g n c k : Nat) (hk : k < n) (w : World) : (Instr.indexAt 53 (.slice (some ⟨g, 0, none⟩) n c) (.int .i64 (k : Int))).run Tryd.prog w = .ok (.pointer (some ⟨g, k, none⟩)) w := by
  rw [run_indexAt_slice w 53 _ _ _ _ _ list_elem6, if_pos (by omega)]
  simp [list_cells6, add_at, Result.andThen]
theorem slice_list6 (ad : Option Addr) (n c k : Nat) (hk : k ≤ c) (w : World) : (Instr.slice 53 (.slice ad n c) none (some (.int .i64 (k : Int))) none).run Tryd.prog w = .ok (.slice ad k c) w := by
  rw [run_slice_h w _ _ _ _ list_elem6 .i64 _ (by omega) (by omega), list_cells6]
  simp only [Result.andThen, sliced]
  have e : (ad.map fun x => x.add (0 * 1)) = ad := by cases ad <;> simp [add0_6]
  rw [e]
  simp
theorem make_list6 (n : Nat) (hn : n ≤ 1000000) (W : World) (z : Int) (hz : z = (n : Nat)) :
    (Instr.makeSlice 53 (.int .i64 z) (.int .i64 z)).run Tryd.prog W = .ok (.slice (some ⟨W.heap.size, 0, none⟩) n n) (W.alloc (.cells (numVals .i64 (List.replicate n 0)).toArray 3)) := by
  subst hz
  obtain ⟨i0, hi, hz0, hz1, hz2⟩ := info_parts info_i64
  have h := run_make (P := Tryd.prog) W 53 3 i0 (.int .i64 0) Tryd.underlying53 hi hz0 .i64 .i64 (n : Int) (n : Int) (by omega) (by omega) (by rw [hz2]; omega) (by omega)
  rw [hz1, Int.toNat_natCast, made_zeros6] at h
  exact h
def asc6 (n k : Nat) : List Nat := List.range k ++ List.replicate (n - k) 0
theorem asc6_length (n k : Nat) (h : k ≤ n) : (asc6 n k).length = n := by unfold asc6; simp; omega
theorem asc6_step (n k : Nat) (h : k < n) : (asc6 n k).set k k = asc6 n (k + 1) := by
  unfold asc6
  rw [List.set_append, if_neg (by simp), List.length_range, Nat.sub_self, show n - k = (n - (k + 1)) + 1 by omega, List.replicate_succ, List.set_cons_zero, List.range_succ, List.append_assoc]
  rfl
theorem asc6_all (n : Nat) : asc6 n n = List.range n := by unfold asc6; simp
theorem asc6_none (n : Nat) : asc6 n 0 = List.replicate n 0 := by unfold asc6; simp
def AscPost (w : World) (n : Nat) (e : Ending) (w' : World) : Prop :=
  e = .returned (.slice (some ⟨w.heap.size, 0, none⟩) n n) ∧ ListAt w' w.heap.size (List.range n) ∧ Below w.heap.size w w' ∧ w.heap.size < w'.heap.size
set_option maxRecDepth 100000 in
set_option maxHeartbeats 4000000 in
theorem ascending_u (n : Nat) (hn : n ≤ 1000) (w : World) : Calls Tryd.prog 37 #[.int .i64 (n : Int)] w (AscPost w n) := by
  have HM := Lib.hid (fun W => make_list6 n (by omega) W (n : Int) rfl)
  obtain ⟨V, hV⟩ : ∃ V, w.alloc (.cells (numVals .i64 (List.replicate n 0)).toArray 3) = V := ⟨_, rfl⟩
  have hm := HM.out w
  have HL0 := Lib.hid (show ListAt V w.heap.size (asc6 n 0) by rw [← hV, asc6_none]; exact listAt_new w _)
  have HB0 := Lib.hid (show Below w.heap.size w V by rw [← hV]; exact (Below.refl _ _).alloc (Nat.le_refl _) _)
  have HS0 := Lib.hid (show w.heap.size < V.heap.size by rw [← hV]; simp)
  rw [hV] at hm
  clear hV
  obtain ⟨g, hg⟩ : ∃ g, w.heap.size = g := ⟨_, rfl⟩
  rw [hg] at hm HL0 HB0 HS0
  have HGG := Lib.hid hg
  clear hg HM
  go_enter Tryd.func37, Tryd.ntmps37
  go_wp2_with fail
  clear hm
  go_loopw [9] (fun i wr => ∃ k : Nat, k ≤ n ∧ i = .int .i64 k ∧ Hid (ListAt wr g (asc6 n k)) ∧ Hid (Below g w wr) ∧ Hid (g < wr.heap.size)) (fun i _ => n - (RowKit.intOf i).toNat)
  case atStart => exact ⟨0, Nat.zero_le _, rfl, HL0, HB0, HS0⟩
  case round =>
    obtain ⟨k, hk, rfl, HL, HB, HS⟩ := hrel
    by_cases hlt : k < n
    · have hki : (k : Int) < (n : Int) := by omega
      have ha := fun W => at_list6 g n n k hlt W
      obtain ⟨c1, f1⟩ := HL.out.get k (by rw [asc6_length n k hk]; exact hlt)
      have HN := Lib.hid (show ListAt (wr.setCell ⟨g, k, none⟩ (.int .i64 ((k : Nat) : Int))) g (asc6 n (k + 1)) by rw [← asc6_step n k hlt]; exact HL.out.set k k)
      have HLT := Lib.hid hlt
      clear hlt
      go_wp2
      go_roundw
      case rel => exact ⟨k + 1, HLT.out, by go_num, HN, Lib.hid (HB.out.setCell (p := ⟨g, k, none⟩) (Nat.le_refl _) _), Lib.hid (by simpa using HS.out)⟩
      case measure => have := HLT.out; simp [RowKit.intOf]; omega
    · obtain rfl : k = n := by omega
      have hki : ¬ (k : Int) < (k : Int) := by omega
      have HE := Lib.hid (asc6_all k)
      go_wp2
      go_ret
      exact ⟨by rw [HGG.out]; rfl, by rw [HGG.out, ← HE.out]; exact HL.out, by rw [HGG.out]; exact HB.out, by rw [HGG.out]; exact HS.out⟩

/-! ### exchange -/
def ExPost (w : World) (g : Nat) (l : List Nat) (i j : Nat) (e : Ending) (w' : World) : Prop :=
  e = .returned (.tuple #[]) ∧ ListAt w' g (swapN l i j) ∧ Below g w w' ∧ w.heap.size ≤ w'.heap.size
theorem ListAt.drew {W : World} {g : Nat} {l : List Nat} (h : ListAt W g l) : ListAt W.drew g l := fun j hj => h j hj
set_option maxRecDepth 100000 in
set_option maxHeartbeats 4000000 in
theorem exchange_u (g c n : Nat) (l : List Nat) (hl : l.length = n) (i j : Nat) (hi : i < n) (hj : j < n) (w : World) (hL : ListAt w g l) :
    Calls Tryd.prog 39 #[.slice (some ⟨g, 0, none⟩) n c, .int .i64 (i : Int), .int .i64 (j : Int)] w (ExPost w g l i j) := by
  have a1 := fun W => at_list6 g n c i hi W
  have a2 := fun W => at_list6 g n c j hj W
  obtain ⟨c1, f1⟩ := hL.get i (by omega)
  obtain ⟨c2, f2⟩ := hL.get j (by omega)
  obtain ⟨x, hx⟩ : ∃ x, l.getD i 0 = x := ⟨_, rfl⟩
  obtain ⟨y, hy⟩ : ∃ y, l.getD j 0 = y := ⟨_, rfl⟩
  rw [hx] at c1
  rw [hy] at c2
  obtain ⟨v', c3⟩ := cell?_setCell_some (w := w) (p := ⟨g, i, none⟩) (x := .int .i64 ((y : Nat) : Int)) (q := ⟨g, j, none⟩) (v := .int .i64 ((y : Nat) : Int)) c2
  have HN := Lib.hid (show ListAt ((w.setCell ⟨g, i, none⟩ (.int .i64 ((y : Nat) : Int))).setCell ⟨g, j, none⟩ (.int .i64 ((x : Nat) : Int))) g (swapN l i j) by unfold swapN; rw [hx, hy]; exact (hL.set i y).set j x)
  clear hx hy hL hl
  go_enter Tryd.func39, Tryd.ntmps39
  go_wp2
  go_region
  go_end0
  exact ⟨rfl, HN.out.drew, (((Below.refl g w).setCell (p := ⟨g, i, none⟩) (Nat.le_refl _) _).setCell (p := ⟨g, j, none⟩) (Nat.le_refl _) _).drew, by show _ ≤ ((w.setCell _ _).setCell _ _).heap.size; simp⟩

/-! ### shuffle -/
def ShPost (g n : Nat) (w0 : World) (o : Option (List Nat)) (e : Ending) (w' : World) : Prop :=
  (match o with
    | none => e = .returned (.int .i64 60)
    | some l => e = .returned (.int .i64 0) ∧ l.length = n ∧ ListAt w' g l) ∧ Below w0.heap.size w0 w' ∧ g < w'.heap.size
theorem ShPost.no {g n : Nat} {w0 w' : World} {o : Option (List Nat)} (h : o = none) (b : Below w0.heap.size w0 w') (hg : g < w'.heap.size) : ShPost g n w0 o (.returned (.int .i64 60)) w' := by subst h; exact ⟨rfl, b, hg⟩
theorem ShPost.yes {g n : Nat} {w0 w' : World} {o : Option (List Nat)} {l : List Nat} (h : o = some l) (hn : l.length = n) (hL : ListAt w' g l) (b : Below w0.heap.size w0 w') (hg : g < w'.heap.size) : ShPost g n w0 o (.returned (.int .i64 0)) w' := by subst h; exact ⟨⟨rfl, hn, hL⟩, b, hg⟩
set_option maxRecDepth 100000 in
set_option maxHeartbeats 8000000 in
theorem shuffle_p (s : ByteArray) (hs : s.size ≤ maxLen) (n c g : Nat) (hn : n ≤ 1000) (w0 w : World) (hL : ListAt w g (List.range n)) (hg : w0.heap.size ≤ g) (hgl : g < w.heap.size) (hB : Below w0.heap.size w0 w) (hR : Ready w0) :
    Calls Tryd.prog 38 #[.string s, .int .i64 (n : Int), .func (.func 39) #[.slice (some ⟨g, 0, none⟩) n c] #[]] w (ShPost g n w0 (shufF s (n - 1) (List.range n))) := by
  have CD := Lib.hid (fun i b W hRW => draw_u s hs i b W hRW)
  have CE := Lib.hid (fun l hl i j hi hj W hLW => exchange_u g c n l hl i j hi hj W hLW)
  have HR := Lib.hid hR; have HL0 := Lib.hid hL; have HB0 := Lib.hid hB; have HG0 := Lib.hid hgl; have HGB := Lib.hid hg
  clear hR hL hB hgl hg
  by_cases h0 : n = 0
  · subst h0
    have HO := Lib.hid (show shufF s (0 - 1) (List.range 0) = some [] from rfl)
    generalize shufF s (0 - 1) (List.range 0) = O at *
    go_enter Tryd.func38, Tryd.ntmps38
    go_wp2_with fail
    go_loopw [7] (fun i wr' => i = .int .i64 (-1) ∧ wr' = w) (fun _ _ => 0)
    case atStart => exact ⟨rfl, rfl⟩
    case round =>
      obtain ⟨rfl, rfl⟩ := hrel
      go_wp2
      go_ret
      exact ShPost.yes HO.out rfl HL0.out HB0.out HG0.out
  · obtain ⟨O, hO⟩ : ∃ O, shufF s (n - 1) (List.range n) = O := ⟨_, rfl⟩
    have HO := Lib.hid hO
    rw [hO]
    clear hO
    have hn1 : 1 ≤ n := by omega
    clear h0
    go_enter Tryd.func38, Tryd.ntmps38
    go_wp2_with fail
    go_loopw [7] (fun i wr' => ∃ (j : Nat) (l : List Nat), j + 1 ≤ n ∧ i = .int .i64 j ∧ l.length = n ∧ Hid (shufF s j l = O) ∧ Hid (ListAt wr' g l) ∧ Hid (Below w0.heap.size w0 wr') ∧ Hid (g < wr'.heap.size)) (fun i _ => (RowKit.intOf i).toNat)
    case atStart => exact ⟨n - 1, List.range n, by omega, congrArg (Value.int .i64) (by omega), List.length_range, HO, HL0, HB0, HG0⟩
    case round =>
      clear HL0 HB0 HG0 HO
      obtain ⟨j, l, hj, rfl, hl, HF, HL, HBB, HG⟩ := hrel
      by_cases h1 : 0 < j
      · have hji : (0 : Int) < (j : Int) := by omega
        have hjb : (j : Int) + 1 ≤ 1000 := by omega
        have HJ := Lib.hid h1; have HJK := Lib.hid hj; have HLL := Lib.hid hl
        clear hl hj h1
        go_wp2_with fail
        refine (CD.out _ _ _ (HR.out.below HBB.out)).mono ?_
        rintro e z1 ⟨rfl, b1⟩
        have HB2 := Lib.hid (below_up6 HBB.out b1)
        have HL2 := Lib.hid (HL.out.below HG.out b1)
        have HG2 := Lib.hid (Nat.lt_of_lt_of_le HG.out b1.size)
        clear b1 HL HG HBB
        cases hd : drawO s (j : Int) ((j : Int) + 1) with
        | none =>
          obtain ⟨v1, v2⟩ := draw_none hd
          have HS := Lib.hid (HF.out.symm.trans (shufF_stop HJ.out hd))
          clear hd
          rw [v1, v2]
          clear v1 v2
          go_wp2
          go_ret
          exact ShPost.no HS.out HB2.out HG2.out
        | some d =>
          obtain ⟨v1, v2⟩ := draw_some hd
          have hr := drawO_range hd
          have HS := Lib.hid (HF.out.symm.trans (shufF_go HJ.out hd))
          obtain ⟨dn, rfl⟩ : ∃ dn : Nat, d = (dn : Int) := ⟨d.toNat, by omega⟩
          rw [Int.toNat_natCast] at HS
          have HD := Lib.hid (show dn ≤ j by omega)
          clear hd
          rw [v1, v2]
          clear v1 v2 hr
          go_wp2_with fail
          refine (CE.out l HLL.out j dn (by have := HJK.out; omega) (by have := HJK.out; have := HD.out; omega) _ HL2.out).mono ?_
          rintro e z2 ⟨rfl, hL3, b2, hs2⟩
          have HL3 := Lib.hid hL3
          have HB3 := Lib.hid (HB2.out.trans (b2.mono HGB.out))
          have HG3 := Lib.hid (Nat.lt_of_lt_of_le HG2.out hs2)
          clear hL3 b2 hs2
          go_wp2_with fail
          go_roundw
          case rel => exact ⟨j - 1, swapN l j dn, by have := HJK.out; omega, congrArg (Value.int .i64) (by have := HJ.out; omega), (swapN_length _ _ _).trans HLL.out, Lib.hid HS.out.symm, HL3, HB3, HG3⟩
          case measure => have := HJ.out; simp [RowKit.intOf]; omega
      · obtain rfl : j = 0 := by omega
        have hji : ¬ (0 : Int) < ((0 : Nat) : Int) := by omega
        have HY := Lib.hid (show O = some l from HF.out.symm)
        have HLL := Lib.hid hl
        clear hl
        go_wp2
        go_ret
        exact ShPost.yes HY.out HLL.out HL.out HBB.out HG.out
end Go.Proofs.YtdolmahodhgfpaaDoor
