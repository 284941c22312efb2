/-
  The contracts of package seed's tries, of the iterator that it returns, and of Draw.
-/
import Derived.Test.YtdolmahodhgfpaaDoorSeedV
import Derived.Test.YtdolmahodhgfpaaDoorSeedC
import Derived.RangeFuncFrom
import Derived.RangeFuncBound
import Derived.RangeFuncCalls
import Derived.RangeFuncLeaves
import Derived.RangeFuncRecord
import Derived.RangeFuncBox
import Derived.Shelf.Abstract
import Derived.OwnWalkIn
import Derived.TacticsInMore
import Derived.LoopNIn
import Derived.LoopIn
namespace Go.Proofs.YtdolmahodhgfpaaDoor
open Go Go.Proofs Go.RowKit Go.Lib

attribute [local go_sem] Oper.semAt_some

/-- The raw numbers of all tries. -/
def rawL (s : ByteArray) (i : Int) : List Nat := (List.range 64).map fun j => rawS s i ((j : Nat) : Int)
theorem rawL_length (s : ByteArray) (i : Int) : (rawL s i).length = 64 := by unfold rawL; rw [List.length_map, List.length_range]
theorem rawL_get (s : ByteArray) (i : Int) (k : Nat) (h : k < (rawL s i).length) : (rawL s i)[k] = rawS s i ((k : Nat) : Int) := by simp [rawL]
/-- The first of raw numbers that is reduced. -/
def firstR (b : Int) : List Nat → Option Int
  | [] => none
  | x :: l => if redB ((x : Nat) : Int) b then some (redV ((x : Nat) : Int) b) else firstR b l
theorem drawF_first (s : ByteArray) (i b : Int) : ∀ (f j : Nat), j + f = 64 → drawF s i b f j = firstR b ((rawL s i).drop j)
  | 0, j, h => by
    rw [List.drop_eq_nil_of_le (by rw [rawL_length]; omega)]
    rfl
  | f + 1, j, h => by
    have hj : j < (rawL s i).length := by rw [rawL_length]; omega
    rw [List.drop_eq_getElem_cons hj, rawL_get]
    unfold drawF firstR
    rw [drawF_first s i b f (j + 1) (by omega)]
theorem drawO_first (s : ByteArray) (i b : Int) (h : namedB s i = true) : drawO s i b = firstR b (rawL s i) := by
  unfold drawO
  rw [if_pos h, drawF_first s i b 64 0 rfl]
  rfl
theorem firstR_none {b : Int} : ∀ {l : List Nat}, (∀ x ∈ l, redB ((x : Nat) : Int) b = false) → firstR b l = none
  | [], _ => rfl
  | x :: l, h => by
    unfold firstR
    rw [h x (by simp)]
    exact firstR_none (fun y hy => h y (by simp [hy]))
theorem firstR_some {b : Int} {y : Nat} (hy : redB ((y : Nat) : Int) b = true) : ∀ {q l : List Nat}, (∀ x ∈ q, redB ((x : Nat) : Int) b = false) → (q ++ [y]) <+: l → firstR b l = some (redV ((y : Nat) : Int) b)
  | [], l, _, hp => by
    obtain ⟨r, rfl⟩ := hp
    show (if redB ((y : Nat) : Int) b then some (redV ((y : Nat) : Int) b) else _) = _
    rw [if_pos hy]
  | x :: q, l, h, hp => by
    obtain ⟨r, rfl⟩ := hp
    show (if redB ((x : Nat) : Int) b then _ else firstR b (q ++ [y] ++ r)) = _
    rw [h x (by simp), if_neg (by decide)]
    exact firstR_some hy (fun z hz => h z (by simp [hz])) ⟨r, rfl⟩
theorem grown_below {w w' : World} (h : Below w.heap.size w w') : w.grownBy w' none := ⟨h.os, h.tape, h.output, h.size, fun k hk _ => h.block k hk⟩
theorem Ready.low {n : Nat} {w w' : World} (h : Ready w) (hg : 0 < n) (hb : Below n w w') : Ready w' := ⟨h.1.below hb hg, Nat.lt_of_lt_of_le h.2 hb.size⟩
theorem tries_u (s : ByteArray) (i : Int) (w : World) : Calls Tryd.prog 36 #[.string s, .int .i64 i] w fun e w' => e = .returned (.func (.func 51) #[] #[.pointer (some ⟨w.heap.size, 0, none⟩), .pointer (some ⟨w.heap.size + 1, 0, none⟩)]) ∧ (w.alloc (.cells #[.string s] 9)).alloc (.cells #[.int .i64 i] 3) = w' := by
  go_enter Tryd.func36, Tryd.ntmps36
  go_wp2
  go_ret
  exact ⟨rfl, rfl⟩

set_option maxRecDepth 100000 in
set_option maxHeartbeats 4000000 in
theorem tries_stops (n Bs Bi n₀ : Nat) (s : ByteArray) (hs : s.size ≤ maxLen) (i : Int) (w0 : World) (hBs : Bs < n₀) (hBi : Bi < n₀) (hG : 0 < n₀) (hn0 : n₀ ≤ w0.heap.size)
    (cs : w0.cell? ⟨Bs, 0, none⟩ = some (.string s)) (ci : w0.cell? ⟨Bi, 0, none⟩ = some (.int .i64 i)) (hR : Ready w0) (hn : namedB s i = true) :
    SeqStopsK Fence.wide n Tryd.prog 51 #[.pointer (some ⟨Bs, 0, none⟩), .pointer (some ⟨Bi, 0, none⟩)] (fun x : Nat => #[.int .i64 ((x : Nat) : Int)]) (Below n₀) (fun l => l = rawL s i) (fun pre => pre <+: rawL s i) 64 w0 := by
  intro l J Jx W hW hJ hJx hY h0
  have hL := rawL_length s i
  have hget := fun k h => rawL_get s i k h
  have CR := Lib.hid (fun k (hk : k < 64) W hRW => by have c := raw_u s hs i ((k : Nat) : Int) W hRW; rw [(rawV_yes hn hk).1, (rawV_yes hn hk).2] at c; exact c)
  have csW : W.cell? ⟨Bs, 0, none⟩ = some (.string s) := (hW.cell (p := ⟨Bs, 0, none⟩) (by show Bs < _; omega)).trans cs
  have ciW : W.cell? ⟨Bi, 0, none⟩ = some (.int .i64 i) := (hW.cell (p := ⟨Bi, 0, none⟩) (by show Bi < _; omega)).trans ci
  have hRW : Ready W := hR.below hW
  obtain ⟨L, hLe⟩ : ∃ L, rawL s i = L := ⟨_, rfl⟩
  rw [hLe] at hL hget ⊢
  have HG := Lib.hid hget; have HL := Lib.hid hL; have HJ := Lib.hid hJ; have HY := Lib.hid hY; have HRW := Lib.hid hRW; have H0 := Lib.hid h0
  have hsz := hW.size
  clear hLe hget hL hJ hJx hY hRW h0 hR cs ci hW
  refine callsIn_of_wp Tryd.func51 rfl trivial ?_ rfl
  simp only [Tryd.ntmps51, List.size_toArray, List.length_cons, List.length_nil, Nat.reduceAdd, Nat.reduceSub, Array.replicate_succ, Array.replicate_zero, List.push_toArray, List.append_toArray, List.nil_append, List.cons_append]
  gi_wp2
  gi_loopw [7] (fun j wr => ∃ k : Nat, k ≤ 64 ∧ j = .int .i64 k ∧ Hid (J (L.take k) wr) ∧ wr.cell? ⟨Bs, 0, none⟩ = some (.string s) ∧ wr.cell? ⟨Bi, 0, none⟩ = some (.int .i64 i) ∧ Hid (Ready wr) ∧ n₀ ≤ wr.heap.size) (fun j _ => 64 - (RowKit.intOf j).toNat)
  case atStart => exact ⟨0, Nat.zero_le _, rfl, Lib.hid (by rw [List.take_zero]; exact H0.out), csW, ciW, HRW, by omega⟩
  case round =>
    clear csW ciW HRW H0
    obtain ⟨k, hk, rfl, HJk, hcs, hci, HRk, hsk⟩ := hrel
    by_cases hlt : k < 64
    · have hki : (k : Int) < 64 := by omega
      gi_wp2_with fail
      refine ⟨trivial, (fun h => by cases h), ?_⟩
      gi_at_call 13
      refine (callsIn_wide.2 (CR.out k hlt wr HRk.out)).mono ?_
      rintro e z ⟨rfl, bz⟩
      have hkL : k < L.length := by have := HL.out; omega
      have HT := Lib.hid (show L.take (k + 1) = L.take k ++ [rawS s i ((k : Nat) : Int)] by rw [List.take_succ_eq_append_getElem hkL, HG.out k hkL])
      have HJz := Lib.hid (HJ.out _ _ _ _ HJk.out (grown_below bz) (fun r e => by cases e))
      have HB := Lib.hid bz
      have hcs2 : z.cell? ⟨Bs, 0, none⟩ = some (.string s) := (bz.cell (p := ⟨Bs, 0, none⟩) (by show Bs < _; omega)).trans hcs
      have hci2 : z.cell? ⟨Bi, 0, none⟩ = some (.int .i64 i) := (bz.cell (p := ⟨Bi, 0, none⟩) (by show Bi < _; omega)).trans hci
      have HRz := Lib.hid (HRk.out.below bz)
      have hsz2 := bz.size
      clear bz hcs hci
      obtain ⟨fn, tmps, assign, body, hy, hR⟩ := HY.out _ (rawS s i ((k : Nat) : Int)) z HJz.out (by rw [List.length_take]; omega)
      have HRR := Lib.hid hR
      clear hR
      gi_wp2
      refine ⟨(fun h => by cases h), HRR.out.mono ?_⟩
      rintro e W3 (⟨rfl, hJ3, hk3⟩ | ⟨rfl, hJ3⟩)
      · have H3 := Lib.hid (show J (L.take (k + 1)) W3 by rw [HT.out]; exact hJ3)
        have hcs3 : W3.cell? ⟨Bs, 0, none⟩ = some (.string s) := (hk3.cell (p := ⟨Bs, 0, none⟩) hBs).trans hcs2
        have hci3 : W3.cell? ⟨Bi, 0, none⟩ = some (.int .i64 i) := (hk3.cell (p := ⟨Bi, 0, none⟩) hBi).trans hci2
        have HR3 := Lib.hid (HRz.out.low hG hk3)
        have hs3 := hk3.size
        clear hk3 hJ3 hcs2 hci2 hy
        gi_wp2
        go_roundw
        case rel => exact ⟨k + 1, by omega, by go_num, H3, hcs3, hci3, HR3, by omega⟩
        case measure => simp [RowKit.intOf]; omega
      · have H3 := Lib.hid (show Jx (L.take (k + 1)) W3 by rw [HT.out]; exact hJ3)
        clear hJ3 hy hcs2 hci2
        gi_wp2
        exact bodyPost_ret (results_none rfl _ _ _) rfl ⟨⟨_, rfl⟩, .inr ⟨_, List.take_prefix _ _, H3.out⟩⟩
    · obtain rfl : k = 64 := by omega
      have H3 := Lib.hid (show J L wr by have := HJk.out; rwa [List.take_of_length_le (by have := HL.out; omega)] at this)
      clear hcs hci
      gi_wp2
      go_end0
      exact ⟨⟨_, rfl⟩, .inl ⟨L, rfl, H3.out⟩⟩

set_option maxRecDepth 100000 in
set_option maxHeartbeats 4000000 in
theorem tries_stops_no (n Bs Bi n₀ : Nat) (s : ByteArray) (hs : s.size ≤ maxLen) (i : Int) (w0 : World) (hBs : Bs < n₀) (hBi : Bi < n₀) (hn0 : n₀ ≤ w0.heap.size)
    (cs : w0.cell? ⟨Bs, 0, none⟩ = some (.string s)) (ci : w0.cell? ⟨Bi, 0, none⟩ = some (.int .i64 i)) (hR : Ready w0) (hn : namedB s i = false) :
    SeqStopsK Fence.wide n Tryd.prog 51 #[.pointer (some ⟨Bs, 0, none⟩), .pointer (some ⟨Bi, 0, none⟩)] (fun x : Nat => #[.int .i64 ((x : Nat) : Int)]) (Below n₀) (fun l => l = []) (fun _ => False) 0 w0 := by
  intro l J Jx W hW hJ hJx hY h0
  have CR := Lib.hid (fun W hRW => by have c := raw_u s hs i 0 W hRW; rw [(rawV_no hn 0).1, (rawV_no hn 0).2] at c; exact c)
  have csW : W.cell? ⟨Bs, 0, none⟩ = some (.string s) := (hW.cell (p := ⟨Bs, 0, none⟩) (by show Bs < _; omega)).trans cs
  have ciW : W.cell? ⟨Bi, 0, none⟩ = some (.int .i64 i) := (hW.cell (p := ⟨Bi, 0, none⟩) (by show Bi < _; omega)).trans ci
  have HRW := Lib.hid (hR.below hW)
  have HJ := Lib.hid hJ; have H0 := Lib.hid h0
  clear hJ hJx hY h0 hR cs ci hW
  refine callsIn_of_wp Tryd.func51 rfl trivial ?_ rfl
  simp only [Tryd.ntmps51, List.size_toArray, List.length_cons, List.length_nil, Nat.reduceAdd, Nat.reduceSub, Array.replicate_succ, Array.replicate_zero, List.push_toArray, List.append_toArray, List.nil_append, List.cons_append]
  gi_wp2
  gi_loopw [7] (fun j wr => j = .int .i64 0 ∧ wr = W) (fun _ _ => 0)
  case atStart => exact ⟨rfl, rfl⟩
  case round =>
    obtain ⟨rfl, rfl⟩ := hrel
    gi_wp2_with fail
    refine ⟨trivial, (fun h => by cases h), ?_⟩
    gi_at_call 13
    refine (callsIn_wide.2 (CR.out _ HRW.out)).mono ?_
    rintro e z ⟨rfl, bz⟩
    have HJz := Lib.hid (HJ.out _ _ _ _ H0.out (grown_below bz) (fun r e => by cases e))
    clear bz csW ciW
    gi_wp2
    refine ⟨fun _ h => (by cases h), ?_⟩
    gi_wp2
    exact bodyPost_ret (results_none rfl _ _ _) rfl ⟨⟨_, rfl⟩, .inl ⟨[], rfl, HJz.out⟩⟩

theorem box_cell6 {W : World} {B : Nat} {v : Value} {t : TypeId} (h : W.heap[B]? = some (.cells #[v] t (0, 0))) : W.cell? ⟨B, 0, none⟩ = some v ∧ W.frozen? ⟨B, 0, none⟩ = false := by
  constructor <;> simp [World.cell?, World.frozen?, h]
/-- The world behind the five boxes that Draw and tries make. -/
noncomputable def drawW (w : World) (s : ByteArray) (i b : Int) : World :=
  ((((w.alloc (.cells #[.int .i64 b] 3)).alloc (.cells #[.int .i64 0] 3)).alloc (.cells #[.int .i64 0] 25)).alloc (.cells #[.string s] 9)).alloc (.cells #[.int .i64 i] 3)
theorem drawW_facts (w : World) (s : ByteArray) (i b : Int) : (drawW w s i b).heap.size = w.heap.size + 5 ∧ Below w.heap.size w (drawW w s i b) ∧
    (drawW w s i b).heap[w.heap.size]? = some (.cells #[.int .i64 b] 3 (0, 0)) ∧ (drawW w s i b).heap[w.heap.size + 1]? = some (.cells #[.int .i64 0] 3 (0, 0)) ∧
    (drawW w s i b).heap[w.heap.size + 1 + 1]? = some (.cells #[.int .i64 0] 25 (0, 0)) ∧ (drawW w s i b).heap[w.heap.size + 1 + 1 + 1]? = some (.cells #[.string s] 9 (0, 0)) ∧
    (drawW w s i b).heap[w.heap.size + 1 + 1 + 1 + 1]? = some (.cells #[.int .i64 i] 3 (0, 0)) := by
  have n0 := heap_alloc_new w (.cells #[.int .i64 b] 3)
  generalize hV0 : w.alloc (.cells #[.int .i64 b] 3) = V0 at n0
  have z0 : V0.heap.size = w.heap.size + 1 := by rw [← hV0]; simp
  have n1 := heap_alloc_new V0 (.cells #[.int .i64 0] 3)
  generalize hV1 : V0.alloc (.cells #[.int .i64 0] 3) = V1 at n1
  have z1 : V1.heap.size = w.heap.size + 2 := by rw [← hV1]; simp; omega
  have n2 := heap_alloc_new V1 (.cells #[.int .i64 0] 25)
  generalize hV2 : V1.alloc (.cells #[.int .i64 0] 25) = V2 at n2
  have z2 : V2.heap.size = w.heap.size + 3 := by rw [← hV2]; simp; omega
  have n3 := heap_alloc_new V2 (.cells #[.string s] 9)
  generalize hV3 : V2.alloc (.cells #[.string s] 9) = V3 at n3
  have z3 : V3.heap.size = w.heap.size + 4 := by rw [← hV3]; simp; omega
  have n4 := heap_alloc_new V3 (.cells #[.int .i64 i] 3)
  have hD : drawW w s i b = V3.alloc (.cells #[.int .i64 i] 3) := by unfold drawW; rw [hV0, hV1, hV2, hV3]
  rw [hD]
  generalize hV4 : V3.alloc (.cells #[.int .i64 i] 3) = V4 at n4
  have z4 : V4.heap.size = w.heap.size + 5 := by rw [← hV4]; simp; omega
  have b0 : ∀ k, k < w.heap.size → V0.heap[k]? = w.heap[k]? := fun k hk => by rw [← hV0]; exact Below.heap_alloc w _ k hk
  have b1 : ∀ k, k < V0.heap.size → V1.heap[k]? = V0.heap[k]? := fun k hk => by rw [← hV1]; exact Below.heap_alloc V0 _ k hk
  have b2 : ∀ k, k < V1.heap.size → V2.heap[k]? = V1.heap[k]? := fun k hk => by rw [← hV2]; exact Below.heap_alloc V1 _ k hk
  have b3 : ∀ k, k < V2.heap.size → V3.heap[k]? = V2.heap[k]? := fun k hk => by rw [← hV3]; exact Below.heap_alloc V2 _ k hk
  have b4 : ∀ k, k < V3.heap.size → V4.heap[k]? = V3.heap[k]? := fun k hk => by rw [← hV4]; exact Below.heap_alloc V3 _ k hk
  refine ⟨z4, ?_, ?_, ?_, ?_, ?_, ?_⟩
  · rw [← hV4, ← hV3, ← hV2, ← hV1, ← hV0]
    exact (((((Below.refl _ w).alloc (Nat.le_refl _) _).alloc (by simp) _).alloc (by simp; omega) _).alloc (by simp; omega) _).alloc (by simp; omega) _
  · rw [b4 _ (by omega), b3 _ (by omega), b2 _ (by omega), b1 _ (by omega)]; exact n0
  · rw [b4 _ (by omega), b3 _ (by omega), b2 _ (by omega), ← z0]; exact n1
  · rw [b4 _ (by omega), b3 _ (by omega), show w.heap.size + 1 + 1 = V1.heap.size by omega]; exact n2
  · rw [b4 _ (by omega), show w.heap.size + 1 + 1 + 1 = V2.heap.size by omega]; exact n3
  · rw [show w.heap.size + 1 + 1 + 1 + 1 = V3.heap.size by omega]; exact n4

theorem two_cell6 {W : World} {A B : Nat} {x y v : Value} (h : W.cell? ⟨B, 0, none⟩ = some v) : ((W.setCell ⟨A, 0, none⟩ x).setCell ⟨B, 0, none⟩ y).cell? ⟨B, 0, none⟩ = some y := by
  by_cases e : A = B
  · subst e
    have h1 := World.cell?_setCell_same W ⟨A, 0, none⟩ x h
    exact World.cell?_setCell_same _ _ _ h1
  · have h1 := (World.cell?_setCell_other W ⟨A, 0, none⟩ ⟨B, 0, none⟩ x (fun e' => e (by injection e'))).trans h
    exact World.cell?_setCell_same _ _ _ h1
theorem two_cells6 {W : World} {B : Nat} {x y v v' : Value} (h : W.cell? ⟨B, 0, none⟩ = some v) (_h' : W.cell? ⟨B + 1, 0, none⟩ = some v') : ((W.setCell ⟨B, 0, none⟩ x).setCell ⟨B + 1, 0, none⟩ y).cell? ⟨B, 0, none⟩ = some x := by
  rw [World.cell?_setCell_other _ _ _ _ (fun e' => by injection e' with e1; omega)]
  exact World.cell?_setCell_same _ _ _ h

set_option maxRecDepth 100000 in
set_option maxHeartbeats 4000000 in
theorem draw_in (s : ByteArray) (hs : s.size ≤ maxLen) (i b : Int) (w : World) (hR : Ready w) : CallsIn Fence.wide 3 Tryd.prog 17 #[.string s, .int .i64 i, .int .i64 b] w fun e w' => e = .returned (.tuple #[.int .i64 (drawV s i b), .int .i64 (drawE s i b)]) ∧ Below w.heap.size w w' := by
  obtain ⟨f0, fb, f1, f2, f3, f4, f5⟩ := drawW_facts w s i b
  obtain ⟨W0, hW0⟩ : ∃ V, drawW w s i b = V := ⟨_, rfl⟩
  rw [hW0] at f0 fb f1 f2 f3 f4 f5
  have key : ∃ (xs : List Nat) (Sp : List Nat → Prop) (N : Nat), drawO s i b = firstR b xs ∧ (∀ pre, Sp pre → pre <+: xs) ∧
      SeqStopsK Fence.wide (3 - 1) Tryd.prog 51 #[.pointer (some ⟨w.heap.size + 1 + 1 + 1, 0, none⟩), .pointer (some ⟨w.heap.size + 1 + 1 + 1 + 1, 0, none⟩)] (fun x : Nat => #[.int .i64 ((x : Nat) : Int)]) (Below W0.heap.size) (fun l => l = xs) Sp N W0 := by
    cases hn : namedB s i with
    | true => exact ⟨_, _, _, drawO_first s i b hn, fun _ h => h, tries_stops _ _ _ _ s hs i W0 (by omega) (by omega) (Nat.lt_of_lt_of_le hR.2 fb.size) (Nat.le_refl _) (box_cell6 f4).1 (box_cell6 f5).1 (hR.below fb) hn⟩
    | false => exact ⟨[], _, _, by unfold drawO; rw [hn]; rfl, fun _ h => h.elim, tries_stops_no _ _ _ _ s hs i W0 (by omega) (by omega) (Nat.le_refl _) (box_cell6 f4).1 (box_cell6 f5).1 (hR.below fb) hn⟩
  obtain ⟨xs, Sp, N, hO, hSp, hseq⟩ := key
  have HO := Lib.hid hO; have HSP := Lib.hid hSp; have HSEQ := Lib.hid hseq; have HW0 := Lib.hid hW0
  have F0 := Lib.hid f0; have FB := Lib.hid fb; have C1 := Lib.hid (box_cell6 f1); have C2 := Lib.hid (box_cell6 f2); have C3 := Lib.hid (box_cell6 f3)
  clear hO hSp hseq hW0 f0 fb f1 f2 f3 f4 f5 hR
  refine callsIn_of_wp_marks Tryd.func17 rfl trivial ?_ rfl
  simp only [Tryd.ntmps17, List.size_toArray, List.length_cons, List.length_nil, Nat.reduceAdd, Nat.reduceSub, Array.replicate_succ, Array.replicate_zero, List.push_toArray, List.append_toArray, List.nil_append, List.cons_append]
  gi_wp2_with (refine ⟨trivial, ?_⟩; gi_at_call 36; refine (callsIn_wide.2 (tries_u _ _ _)).mono ?_; rintro e w' ⟨rfl, rfl⟩)
  change Code.wpIn _ _ _ _ _ _ (drawW w s i b)
  rw [HW0.out]
  refine wpIn_rangeFunc_ownF rfl (by decide) (gf := 51) rfl trivial (enters_of Tryd.func51 (by kernel_rfl) rfl)
    HSEQ.out belowK_t (belowK_b (Nat.le_refl _)) (Below.refl _ _) (fun _ => rfl)
    (fun pre W => ((∀ x ∈ pre, redB ((x : Nat) : Int) b = false) ∧ W.cell? ⟨w.heap.size, 0, none⟩ = some (.int .i64 b) ∧ (W.cell? ⟨w.heap.size + 1, 0, none⟩ = some (.int .i64 0) ∧ W.frozen? ⟨w.heap.size + 1, 0, none⟩ = false) ∧ (W.cell? ⟨w.heap.size + 1 + 1, 0, none⟩ = some (.int .i64 0) ∧ W.frozen? ⟨w.heap.size + 1 + 1, 0, none⟩ = false)) ∧ Below w.heap.size w W)
    (fun c pre W => (c = .ret ∧ (∃ q y, pre = q ++ [y] ∧ (∀ x ∈ q, redB ((x : Nat) : Int) b = false) ∧ redB ((y : Nat) : Int) b = true ∧ W.cell? ⟨w.heap.size + 1, 0, none⟩ = some (.int .i64 (redV ((y : Nat) : Int) b))) ∧ W.cell? ⟨w.heap.size + 1 + 1, 0, none⟩ = some (.int .i64 0)) ∧ Below w.heap.size w W)
    (OwnFrom.and (Own.from (fun l A B row hs hg hr => ⟨hs.1, cell_kept hs.2.1 hg hr, ⟨cell_kept hs.2.2.1.1 hg hr, (frozen_kept hs.2.2.1.1 hg hr).trans hs.2.2.1.2⟩, cell_kept hs.2.2.2.1 hg hr, (frozen_kept hs.2.2.2.1 hg hr).trans hs.2.2.2.2⟩) _) (ownFrom_below (Nat.le_refl _) FB.out.size))
    (fun c => OwnFrom.and (Own.from (fun l A B row hs hg hr => ⟨hs.1, (by obtain ⟨q, y, h1, h2, h3, h4⟩ := hs.2.1; exact ⟨q, y, h1, h2, h3, cell_kept h4 hg hr⟩), cell_kept hs.2.2 hg hr⟩) _) (ownFrom_below (Nat.le_refl _) FB.out.size))
    ⟨⟨by simp, C1.out.1, C2.out, C3.out⟩, FB.out⟩
    (fun x => { tmps := #[.string s, .int .i64 i, .int .i64 b, undef, undef, .pointer (some ⟨w.heap.size, 0, none⟩), .pointer (some ⟨w.heap.size + 1, 0, none⟩), .pointer (some ⟨w.heap.size + 1 + 1, 0, none⟩), .int .i64 ((x : Nat) : Int), undef, undef, .string s, .int .i64 i, .func (.func 51) #[] #[.pointer (some ⟨w.heap.size + 1 + 1 + 1, 0, none⟩), .pointer (some ⟨w.heap.size + 1 + 1 + 1 + 1, 0, none⟩)], .int .i64 ((x : Nat) : Int), undef, undef, undef, undef, undef, undef, undef, undef], defers := [] }) ?assign ?body ?done ?stop
  case assign =>
    intro l x W K hK
    gi_wp2
    exact hK
  case body =>
    rintro l pre x W ⟨⟨hp, c1, ⟨c2, g2⟩, ⟨c3, g3⟩⟩, hB⟩ _
    have HP := Lib.hid hp; have HB := Lib.hid hB
    clear hp hB
    cases hr : redB ((x : Nat) : Int) b with
    | false =>
      have CR := Lib.hid (fun W => by have c := reduce_p ((x : Nat) : Int) b W; rw [hr] at c; exact c)
      have HRB := Lib.hid hr
      clear hr
      gi_wp2_with (refine ⟨trivial, ?_⟩; gi_at_call 15; refine (CallsIn.inRound l (callsIn_wide.2 (CR.out _))).mono ?_; rintro en W2 ⟨rfl, rfl⟩)
      exact ⟨KeepsOthers.refl _, Below.refl _ _, ⟨⟨fun y hy => (List.mem_append.1 hy).elim (HP.out y) (fun e => by rw [List.mem_singleton.1 e]; exact HRB.out), c1, ⟨c2, g2⟩, c3, g3⟩, HB.out⟩⟩
    | true =>
      have CR := Lib.hid (fun W => by have c := reduce_p ((x : Nat) : Int) b W; rw [hr] at c; exact c)
      have HRB := Lib.hid hr
      clear hr
      gi_wp2_with (refine ⟨trivial, ?_⟩; gi_at_call 15; refine (CallsIn.inRound l (callsIn_wide.2 (CR.out _))).mono ?_; rintro en W2 ⟨rfl, rfl⟩)
      exact ⟨(KeepsOthers.setCell _ _ _).trans (KeepsOthers.setCell _ _ _), ⟨rfl, ⟨pre, x, rfl, HP.out, HRB.out, two_cells6 c2 c3⟩, two_cell6 c3⟩, (HB.out.setCell (p := ⟨w.heap.size + 1, 0, none⟩) (by show _ ≤ _ + 1; omega) _).setCell (p := ⟨w.heap.size + 1 + 1, 0, none⟩) (by show _ ≤ _ + 1 + 1; omega) _⟩
  case done =>
    rintro D ys W hD rfl ⟨⟨hp, c1, ⟨c2, g2⟩, ⟨c3, g3⟩⟩, hB⟩ hK
    have HV := Lib.hid (draw_none (HO.out.trans (firstR_none hp)))
    have HK := Lib.hid hK; have HB := Lib.hid hB; have HD := Lib.hid hD
    have F0' := F0.out
    clear hp hK hB hD c1
    gi_wp2
    have hK' := ((KeepsOthers.setCell W ⟨w.heap.size + 1, 0, none⟩ (.int .i64 0)).trans (KeepsOthers.setCell _ ⟨w.heap.size + 1 + 1, 0, none⟩ (.int .i64 60))).same D _ HK.out rfl
    refine ⟨by simp, .inl ⟨_, _, rfl, run_takeDeferred hK', ?_⟩⟩
    have hc1 := cell_kept (two_cells6 (x := .int .i64 0) (y := .int .i64 60) c2 c3) (grownBy_putObj' _ D (.deferred none)) (fun r e => by cases e; exact ⟨_, hK', rfl⟩)
    have hc2 := cell_kept (two_cell6 (x := .int .i64 0) (y := .int .i64 60) (A := w.heap.size + 1) c3) (grownBy_putObj' _ D (.deferred none)) (fun r e => by cases e; exact ⟨_, hK', rfl⟩)
    refine ⟨.tuple #[.int .i64 0, .int .i64 60], ?_, by rw [HV.out.1, HV.out.2], ((HB.out.setCell (p := ⟨w.heap.size + 1, 0, none⟩) (by show _ ≤ _ + 1; omega) _).setCell (p := ⟨w.heap.size + 1 + 1, 0, none⟩) (by show _ ≤ _ + 1 + 1; omega) _).trans (belowK_b (w := w) (Nat.le_refl _) _ D _ _ (by have := HD.out; omega) hK' rfl rfl)⟩
    simp [results, Tryd.f17, go_sem, hc1, hc2]
  case stop =>
    rintro D c pre W hD hpre ⟨⟨rfl, ⟨q, y, rfl, hq, hy, c2⟩, c3⟩, hB⟩ hK
    have HV := Lib.hid (draw_some (HO.out.trans (firstR_some hy hq (HSP.out _ hpre))))
    have HK := Lib.hid hK; have HB := Lib.hid hB; have HD := Lib.hid hD
    have F0' := F0.out
    clear hq hy hpre hK hB hD
    gi_wp2
    refine ⟨by simp, .inl ⟨_, _, rfl, run_takeDeferred HK.out, ?_⟩⟩
    have hc1 := cell_kept c2 (grownBy_putObj' _ D (.deferred none)) (fun r e => by cases e; exact ⟨_, HK.out, rfl⟩)
    have hc2 := cell_kept c3 (grownBy_putObj' _ D (.deferred none)) (fun r e => by cases e; exact ⟨_, HK.out, rfl⟩)
    refine ⟨.tuple #[.int .i64 (redV ((y : Nat) : Int) b), .int .i64 0], ?_, by rw [HV.out.1, HV.out.2], HB.out.trans (belowK_b (w := w) (Nat.le_refl _) W D _ _ (by have := HD.out; omega) HK.out rfl rfl)⟩
    simp [results, Tryd.f17, go_sem, hc1, hc2]
theorem draw_u (s : ByteArray) (hs : s.size ≤ maxLen) (i b : Int) (w : World) (hR : Ready w) : Calls Tryd.prog 17 #[.string s, .int .i64 i, .int .i64 b] w fun e w' => e = .returned (.tuple #[.int .i64 (drawV s i b), .int .i64 (drawE s i b)]) ∧ Below w.heap.size w w' :=
  callsIn_wide.1 (draw_in s hs i b w hR)
end Go.Proofs.YtdolmahodhgfpaaDoor
