/-
  WireSequence returns true for all arguments: the walk.
-/
import Derived.Test.YtkilmnhciigkcaaDoorSane
import Derived.Test.YtkilmnhciigkcaaDoorWire
import Derived.RegionTactic
import Derived.ChangeAlike
import Derived.Deep.RegionWith
import Derived.Deep.CutRange
import Derived.Deep.DeepCutAuto
import Derived.Deep.RegionHeld3
namespace Go.Proofs.YtkilmnhciigkcaaDoor
open Go Go.Proofs Go.RowKit Go.Lib

/-- What a slice of integers that came in holds. -/
def IntsIn (W : World) (a : Option Addr) (len : Nat) (z : Nat → Int) : Prop :=
  len = 0 ∨ ∃ b o, a = some ⟨b, o, none⟩ ∧ b < W.heap.size ∧ ∀ i, i < len → W.cell? ⟨b, o + i, none⟩ = some (.int .i64 (z i)) ∧ -9223372036854775808 ≤ z i ∧ z i ≤ 9223372036854775807
/-- What a slice of strings that came in holds. -/
def StrsIn (W : World) (a : Option Addr) (len : Nat) (t : Nat → ByteArray) : Prop :=
  len = 0 ∨ ∃ b o, a = some ⟨b, o, none⟩ ∧ b < W.heap.size ∧ ∀ i, i < len → W.cell? ⟨b, o + i, none⟩ = some (.string (t i)) ∧ (t i).size ≤ maxLen

/-- Text i, cut to 100 bytes. -/
def cut100 (t : ByteArray) : ByteArray := t.extract 0 (min t.size 100)
theorem cut100_size (t : ByteArray) : (cut100 t).size ≤ 100 := by unfold cut100; simp; omega

/-- The first k encodings, one after the other. -/
def catS (z : Nat → Int) (t : Nat → ByteArray) : Nat → ByteArray
  | 0 => ByteArray.empty
  | k + 1 => (catS z t k ++ encS (numF (z k))) ++ putS (cut100 (t k))
theorem catS_size (z : Nat → Int) (t : Nat → ByteArray) : ∀ k, (catS z t k).size ≤ 118 * k
  | 0 => by simp [catS]
  | k + 1 => by
    have := catS_size z t k
    have h1 := numF_range (z k)
    have h2 := encS_size_le (numF (z k)) (by omega) (by omega)
    have h3 := putS_le (cut100 (t k)) (by have := cut100_size (t k); omega)
    have h4 := cut100_size (t k)
    simp only [catS, ByteArray.size_append]
    omega
theorem catS_drop (z : Nat → Int) (t : Nat → ByteArray) (k : Nat) : ∀ n, k < n → ∃ q, (catS z t n).data.toList.drop (catS z t k).size = (encS (numF (z k))).data.toList ++ ((putS (cut100 (t k))).data.toList ++ q) := by
  have pre : ∀ m, k ≤ m → ∃ r, (catS z t m).data.toList = (catS z t k).data.toList ++ r := by
    intro m
    induction m with
    | zero => intro h; obtain rfl : k = 0 := by omega
              exact ⟨[], by simp⟩
    | succ m ih =>
      intro h
      by_cases e : k = m + 1
      · subst e; exact ⟨[], by simp⟩
      · obtain ⟨r, hr⟩ := ih (by omega)
        exact ⟨r ++ ((encS (numF (z m))).data.toList ++ (putS (cut100 (t m))).data.toList), by simp only [catS]; rw [append_data, append_data, hr]; simp⟩
  intro n
  induction n with
  | zero => intro h; omega
  | succ n ih =>
    intro h
    by_cases e : k = n
    · subst e
      refine ⟨[], ?_⟩
      simp only [catS]
      rw [append_data, append_data, List.append_assoc, ← size_len, List.drop_left]
      simp
    · obtain ⟨q, hq⟩ := ih (by omega)
      obtain ⟨r, hr⟩ := pre n (by omega)
      refine ⟨q ++ ((encS (numF (z n))).data.toList ++ (putS (cut100 (t n))).data.toList), ?_⟩
      have hle : (catS z t k).size ≤ (catS z t n).data.toList.length := by rw [hr, List.length_append, size_len]; omega
      simp only [catS]
      rw [append_data, append_data, List.append_assoc, List.drop_append_of_le_length hle, hq]
      simp

theorem catS_drop2 (z : Nat → Int) (t : Nat → ByteArray) {k n : Nat} (h : k < n) : ∃ q, (catS z t n).data.toList.drop ((catS z t k).size + (encS (numF (z k))).size) = (putS (cut100 (t k))).data.toList ++ q := by
  obtain ⟨q, hq⟩ := catS_drop z t k n h
  exact ⟨q, by rw [← List.drop_drop, hq, ← size_len (encS _), List.drop_left]⟩
theorem catS_le (z : Nat → Int) (t : Nat → ByteArray) {k n : Nat} (h : k < n) : (catS z t k).size + (encS (numF (z k))).size + (putS (cut100 (t k))).size ≤ (catS z t n).size := by
  obtain ⟨q, hq⟩ := catS_drop z t k n h
  have := congrArg List.length hq
  simp only [List.length_drop, List.length_append, size_len] at this
  have hp := putS_size (cut100 (t k))
  have hpos := encS_pos' (numF (z k))
  omega

theorem number_held (c : Int) (h0 : -9223372036854775808 ≤ c) (h1 : c ≤ 9223372036854775807) (x : Int) (hx : numF c = x) (a1 a2 : Addr) (v1 v2 : Value) (w : World) (e1 : w.cell? a1 = some v1) (e2 : w.cell? a2 = some v2) :
    Calls Tryd.prog 11 #[.int .i64 c] w fun e w' => e = .returned (.int .i64 x) ∧ (w'.cell? a1 = some v1 ∧ w'.cell? a2 = some v2) ∧ Below w.heap.size w w' := by
  subst hx
  exact (number_any c h0 h1 w).mono fun e w' ⟨he, hb⟩ => ⟨he, ⟨(hb.cell (p := a1) (block_of_cell e1)).trans e1, (hb.cell (p := a2) (block_of_cell e2)).trans e2⟩, hb⟩
theorem below_undrew {w w' : World} (h : Below w.drew.heap.size w.drew w') : Below w.heap.size w w' := ⟨h.os, h.tape, h.output, h.size, h.block⟩
theorem min3 {P : Program} (w : World) (ts : Array TypeId) (t : TypeId) (x y z : Int) (m : Int) (hm : m = min (min x y) z) :
    (Builtin.min_ ts t #[.int .i64 x, .int .i64 y, .int .i64 z]).run P w = .ok (.int .i64 m) w := by
  subst hm
  simp [Builtin.min_, Builtin.min2]
  omega

set_option maxRecDepth 100000 in
set_option maxHeartbeats 4000000 in
theorem sequence_zero (a1 a2 : Option Addr) (n1 n2 c1 c2 : Nat) (hz : n1 = 0 ∨ n2 = 0) (h1 : n1 ≤ 9223372036854775807) (h2 : n2 ≤ 9223372036854775807) (w : World) (hT : HasTab w) (h0 : 0 < w.heap.size) :
    Calls Tryd.prog 6 #[.slice a1 n1 c1, .slice a2 n2 c2] w fun e w' => e = .returned (.bool true) ∧ Below w.heap.size w w' := by
  have hmin := fun w' => min3 (P := Tryd.prog) w' #[3, 3, 3] 3 (n1 : Int) (n2 : Int) 20 0 (by omega)
  go_enter Tryd.func6, Tryd.ntmps6
  go_wp2_with fail
  refine (sane_any _ hT h0).mono ?_
  rintro e w1 ⟨rfl, b1⟩
  go_wp2_with fail
  refine wp_loop_once ?_
  go_wp2_with fail
  refine wp_loop_once ?_
  go_wp2_with fail
  refine (int_none ByteArray.empty (by decide) 0 (by decide) rfl _).mono ?_
  rintro e w2 ⟨rfl, rfl⟩
  go_wp2
  go_ret
  exact ⟨rfl, b1⟩

set_option maxRecDepth 100000 in
set_option maxHeartbeats 3000000 in
theorem sequence_walk (a1 a2 : Option Addr) (n1 n2 c1 c2 : Nat) (z : Nat → Int) (t : Nat → ByteArray) (h1 : n1 ≤ maxLen) (h2 : n2 ≤ maxLen) (w : World) (hI : IntsIn w a1 n1 z) (hS : StrsIn w a2 n2 t)
    (hT : HasTab w) (h0 : 0 < w.heap.size) :
    Calls Tryd.prog 6 #[.slice a1 n1 c1, .slice a2 n2 c2] w fun e w' => e = .returned (.bool true) ∧ Below w.heap.size w w' := by
  unfold maxLen at h1 h2
  by_cases hz : n1 = 0 ∨ n2 = 0
  · exact sequence_zero a1 a2 n1 n2 c1 c2 hz (by omega) (by omega) w hT h0
  rcases hI with hI | ⟨B1, o1, rfl, hB1, hcell1⟩
  · exact absurd (.inl hI) hz
  rcases hS with hS | ⟨B2, o2, rfl, hB2, hcell2⟩
  · exact absurd (.inr hS) hz
  obtain ⟨n, hn⟩ : ∃ n, n = min (min n1 n2) 20 := ⟨_, rfl⟩
  have hn1 : n ≤ n1 := by omega
  have hn2 : n ≤ n2 := by omega
  have hn20 : n ≤ 20 := by omega
  have hmin := fun w' => min3 (P := Tryd.prog) w' #[3, 3, 3] 3 (n1 : Int) (n2 : Int) 20 (n : Int) (by omega)
  have HC1 := Lib.hid hcell1
  have HC2 := Lib.hid hcell2
  clear hn hz hcell1 hcell2
  obtain ⟨S, hSd⟩ : ∃ S, catS z t n = S := ⟨_, rfl⟩
  have hSs : S.size ≤ 2360 := by rw [← hSd]; have := catS_size z t n; omega
  have HSD := Lib.hid hSd
  clear hSd
  go_enter Tryd.func6, Tryd.ntmps6
  go_wp2_with fail
  refine (sane_any _ hT h0).mono ?_
  rintro e w1 ⟨rfl, b1⟩
  go_wp2_with fail
  go_loopw [7, 8] (fun s i wr => ∃ k : Nat, k ≤ n ∧ i = .int .i64 k ∧ s = .string (catS z t k) ∧ Below w.heap.size w wr) (fun _ i _ => n - (RowKit.intOf i).toNat)
  case atStart => exact ⟨0, Nat.zero_le _, rfl, rfl, b1⟩
  case round =>
    obtain ⟨k, hk, rfl, rfl, hbr⟩ := hrel
    by_cases hkn : k < n
    · obtain ⟨d1, d2, d3⟩ := HC1.out k (by omega)
      obtain ⟨d4, d5⟩ := HC2.out k (by omega)
      have g1 : wr.cell? ⟨B1, o1 + k, none⟩ = some (.int .i64 (z k)) := (hbr.cell (p := ⟨B1, o1 + k, none⟩) hB1).trans d1
      have g2 : wr.cell? ⟨B2, o2 + k, none⟩ = some (.string (t k)) := (hbr.cell (p := ⟨B2, o2 + k, none⟩) hB2).trans d4
      have hB1r : B1 < wr.heap.size := Nat.lt_of_lt_of_le hB1 hbr.size
      have hB2r : B2 < wr.heap.size := Nat.lt_of_lt_of_le hB2 hbr.size
      have ik1 : (k : Int) < (n : Int) := by omega
      have ik2 : (k : Int) < (n1 : Int) := by omega
      have ik3 : (k : Int) < (n2 : Int) := by omega
      have HG2 := Lib.hid g2
      have xr := numF_range (z k)
      obtain ⟨x, hx⟩ : ∃ x, numF (z k) = x := ⟨_, rfl⟩
      rw [hx] at xr
      obtain ⟨x0, x1⟩ := xr
      have HX := Lib.hid hx
      clear hx d1 d4 g2
      go_wp2_with fail
      refine (number_any (z k) d2 d3 _).mono ?_
      rw [HX.out]
      rintro e w3 ⟨rfl, b3⟩
      go_wp2_with fail
      refine (putInt_yes x (by omega) (by omega) _).mono ?_
      rintro e w4 ⟨rfl, b4⟩
      have b5 := b3.trans (b4.mono b3.size)
      have g4 : w4.cell? ⟨B2, o2 + k, none⟩ = some (.string (t k)) := (b5.cell (p := ⟨B2, o2 + k, none⟩) hB2r).trans HG2.out
      obtain ⟨T, hTd⟩ : ∃ T, t k = T := ⟨_, rfl⟩
      rw [hTd] at g4 d5
      unfold maxLen at d5
      obtain ⟨m, hm⟩ : ∃ m, m = min T.size 100 := ⟨_, rfl⟩
      have hmn1 : min (T.size : Int) 100 = (m : Int) := by omega
      have hmn2 : (if (100 : Int) < (T.size : Int) then (100 : Int) else (T.size : Int)) = (m : Int) := by split <;> omega
      obtain ⟨C, hC⟩ : ∃ C, cut100 T = C := ⟨_, rfl⟩
      have hCe : T.extract 0 m = C := by rw [← hC, hm]; rfl
      have hC100 : C.size ≤ 100 := hC ▸ cut100_size T
      have hsl := fun w' => slice_to (P := Tryd.prog) 9 Tryd.underlying9 T (m : Int) m rfl (by omega) C hCe w'
      have lA := encS_size_le x (by omega) (by omega)
      have lP := putS_le C (by omega)
      have lcat := catS_size z t k
      obtain ⟨A, hA⟩ : ∃ A, encS x = A := ⟨_, rfl⟩
      obtain ⟨P, hP⟩ : ∃ P, putS C = P := ⟨_, rfl⟩
      have cP := fun w' => putString_yes C (by omega) w'
      rw [hA] at lA ⊢
      rw [hP] at lP cP
      obtain ⟨D, hD⟩ : ∃ D, catS z t k = D := ⟨_, rfl⟩
      have hnext : catS z t (k + 1) = (D ++ A) ++ P := by
        simp only [catS]
        rw [hD, HX.out, hA, hTd, hC, hP]
      rw [hD] at lcat ⊢
      have hcat1 : D.size + A.size ≤ 9223372036854775807 := by omega
      have hcat2 : D.size + A.size + P.size ≤ 9223372036854775807 := by omega
      have CP := Lib.hid cP; have HN := Lib.hid hnext
      clear cP hnext hD hP hA hC hCe hm hTd g1
      go_upto_region 8 with fail
      go_cut [11, 12] from 30 to 69 (fun s11 s12 wx => s11 = .string P ∧ s12 = .int .i64 0 ∧ Below w4.heap.size w4 wx)
      case first =>
        go_region_with (go_at_call 19; refine (CP.out _).mono ?_; rintro e w6 ⟨rfl, b6⟩)
        all_goals (go_wp2_with fail; go_meet; exact ⟨rfl, rfl, below_undrew b6⟩)
      case rest =>
        obtain ⟨rfl, rfl, b6⟩ := hcut
        go_wp2
        have bn := hbr.trans ((b5.trans (b6.mono b5.size)).mono hbr.size)
        go_roundw
        case rel => first | exact ⟨k + 1, by omega, by go_num, congrArg Value.string HN.out.symm, bn⟩ | ((repeat apply Exists.intro); exact ⟨⟨k + 1, by omega, by go_num, congrArg Value.string HN.out.symm, bn⟩, rfl⟩)
        case measure => simp [RowKit.intOf]; omega
    · have hkn2 : k = n := by omega
      have hcatS : catS z t k = S := by rw [hkn2]; exact HSD.out
      rw [hcatS]
      have HB := Lib.hid hbr
      obtain ⟨wo, hwo⟩ : ∃ wo : World, wo = wr := ⟨_, rfl⟩
      rw [← hwo] at HB ⊢
      clear hbr hcatS hkn2 hwo
      go_wp2_with fail
      go_loopw [13, 14] (fun p i wq => ∃ j : Nat, j ≤ n ∧ i = .int .i64 j ∧ p = .int .i64 ((catS z t j).size : Nat) ∧ Below w.heap.size w wq) (fun _ i _ => n - (RowKit.intOf i).toNat)
      case atStart => exact ⟨0, Nat.zero_le _, rfl, rfl, HB.out⟩
      case round =>
        obtain ⟨j, hj, rfl, rfl, hbq⟩ := hrel
        by_cases hjn : j < n
        · obtain ⟨d1, d2, d3⟩ := HC1.out j (by omega)
          obtain ⟨d4, d5⟩ := HC2.out j (by omega)
          have g1 := (hbq.cell (p := ⟨B1, o1 + j, none⟩) hB1).trans d1
          have g2 := (hbq.cell (p := ⟨B2, o2 + j, none⟩) hB2).trans d4
          have hBlt := hbq.size
          have xr := numF_range (z j)
          obtain ⟨q, hq⟩ := catS_drop z t j n hjn
          obtain ⟨q', hq'⟩ := catS_drop2 z t hjn
          have hle := catS_le z t hjn
          obtain ⟨x, hx⟩ : ∃ x, numF (z j) = x := ⟨_, rfl⟩
          obtain ⟨T, hTd⟩ : ∃ T, t j = T := ⟨_, rfl⟩
          obtain ⟨C, hC⟩ : ∃ C, cut100 T = C := ⟨_, rfl⟩
          obtain ⟨p, hp⟩ : ∃ p, (catS z t j).size = p := ⟨_, rfl⟩
          have hnext : (catS z t (j + 1)).size = p + (encS x).size + (putS C).size := by
            simp only [catS, ByteArray.size_append]
            rw [hp, hx, hTd, hC]
          rw [HSD.out, hp, hx, hTd, hC] at hle
          rw [HSD.out, hp, hx, hTd, hC] at hq
          rw [HSD.out, hp, hx, hTd, hC] at hq'
          rw [hTd] at g2 d5
          rw [hx] at xr
          rw [hp]
          obtain ⟨x0, x1⟩ := xr
          have hC100 : C.size ≤ 100 := hC ▸ cut100_size T
          have sI := fun w' => int_at S (by unfold maxLen; omega) p (by omega) x (by omega) (by omega) _ hq w'
          have sS := fun w' => string_at S (by unfold maxLen; omega) (p + (encS x).size) (by omega) C (by omega) _ hq' w'
          rw [show ((p + (encS x).size : Nat) : Int) = (p : Int) + ((encS x).size : Int) by omega] at sS
          unfold maxLen at d5
          obtain ⟨m, hm⟩ : ∃ m, m = min T.size 100 := ⟨_, rfl⟩
          have hmn1 : min (T.size : Int) 100 = (m : Int) := by omega
          have hmn2 : (if (100 : Int) < (T.size : Int) then (100 : Int) else (T.size : Int)) = (m : Int) := by split <;> omega
          have hCe : T.extract 0 m = C := by rw [← hC, hm]; rfl
          have hsl := fun w' => slice_to (P := Tryd.prog) 9 Tryd.underlying9 T (m : Int) m rfl (by omega) C hCe w'
          obtain ⟨A, hA⟩ : ∃ A, encS x = A := ⟨_, rfl⟩
          obtain ⟨P, hP⟩ : ∃ P, putS C = P := ⟨_, rfl⟩
          rw [hA] at sI sS hle hnext
          rw [hP] at sS hle hnext
          have SI := Lib.hid sI; have SS := Lib.hid sS; have HN := Lib.hid hnext; have HX := Lib.hid hx; have HBQ := Lib.hid hbq; have HG1 := Lib.hid g1; have HG2 := Lib.hid g2
          have ik1 : (j : Int) < (n : Int) := by omega
          have ik2 : (j : Int) < (n1 : Int) := by omega
          have ik3 : (j : Int) < (n2 : Int) := by omega
          clear sI sS hnext hx hq hq' hTd hC hp hm hCe hA hP d1 d4 hbq g1 g2
          go_wp2_with fail
          refine (SI.out _).mono ?_
          rintro e w3 ⟨rfl, rfl⟩
          go_wp2_with fail
          refine (SS.out _).mono ?_
          rintro e w4 ⟨rfl, b4⟩
          have g4 := (b4.cell (p := ⟨B1, o1 + j, none⟩) (Nat.lt_of_lt_of_le hB1 hBlt)).trans HG1.out
          have g5 := (b4.cell (p := ⟨B2, o2 + j, none⟩) (Nat.lt_of_lt_of_le hB2 hBlt)).trans HG2.out
          have hB2w : B2 < w4.heap.size := Nat.lt_of_lt_of_le hB2 (Nat.le_trans hBlt b4.size)
          have HG5 := Lib.hid g5
          clear g5
          go_upto_region 18 with fail
          go_cut [118] from 70 to 119 (fun s118 wx => s118 = .bool false ∧ Below w4.heap.size w4 wx)
          case first =>
            have g5 := HG5.out
            go_region_held3 (fun w' => w'.cell? ⟨B1, o1 + j, none⟩ = some (.int .i64 (z j)) ∧ w'.cell? ⟨B2, o2 + j, none⟩ = some (.string T)) (go_keep)
              (first | (go_at_call 11; refine (number_held (z j) d2 d3 x HX.out ⟨B1, o1 + j, none⟩ ⟨B2, o2 + j, none⟩ (.int .i64 (z j)) (.string T) _ ?_ ?_).mono ?_; (simp [*]); (simp [*]); rintro e w6 ⟨rfl, ⟨g6, g7⟩, b6⟩))
            all_goals (go_wp2_with fail; go_meet; exact ⟨rfl, below_undrew b6⟩)
          case rest =>
            obtain ⟨rfl, b6⟩ := hcut
            go_wp2
            have bn := HBQ.out.trans ((b4.trans (b6.mono b4.size)).mono HBQ.out.size)
            have hend : Value.int .i64 ((p : Int) + (A.size : Int) + (P.size : Int)) = Value.int .i64 (((catS z t (j + 1)).size : Nat) : Int) := congrArg (Value.int .i64) (by rw [HN.out]; omega)
            go_roundw
            case rel => first | exact ⟨j + 1, by omega, by go_num, hend, bn⟩ | ((repeat apply Exists.intro); exact ⟨⟨j + 1, by omega, by go_num, hend, bn⟩, rfl⟩)
            case measure => simp [RowKit.intOf]; omega
        · have hjn2 : j = n := by omega
          have hcatS : (catS z t j).size = S.size := by rw [hjn2, HSD.out]
          rw [hcatS]
          have hnone : scan 0 0 (S.data.toList.drop S.size) = none := by rw [List.drop_of_length_le (by rw [size_len]; omega)]; rfl
          have cN := fun w' => int_none S (by unfold maxLen; omega) S.size (Nat.le_refl _) hnone w'
          have CN := Lib.hid cN
          clear cN hnone hcatS hjn2
          go_wp2_with fail
          refine (CN.out _).mono ?_
          rintro e w3 ⟨rfl, rfl⟩
          go_wp2
          go_ret
          exact ⟨rfl, hbq⟩
end Go.Proofs.YtkilmnhciigkcaaDoor
