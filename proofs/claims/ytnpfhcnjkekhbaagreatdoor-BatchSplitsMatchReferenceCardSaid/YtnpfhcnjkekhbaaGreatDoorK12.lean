/-
  Layer 9: events and batches as bytes, plain: what is encoded is decoded, wherever it is embedded, and what is decoded was encoded. Layer 9: streams that integers determine, plain: their events are valid and numbered; sizes; lows. Layer 9: sizes and lows that integers determine, plain; the parts of a stream, plain. Layer 9: the parts of a stream, plain: what a stream, its sizes and its lows must be; each part is valid and follows the one before it; the parts are the stream.
-/
import Derived.Test.YtnpfhcnjkekhbaaGreatDoorProg
import Derived.Test.YtnpfhcnjkekhbaaGreatDoorK01
import Derived.Test.YtnpfhcnjkekhbaaGreatDoorK11
import Derived.Deep.RegionHeld3
import Derived.Lib.QuietBelow
import Derived.Deep.DeepCutAuto
import Derived.Deep.QuietTactic
import Derived.Laws.Rows
import Derived.Laws.OwnMore
import Derived.OwnWalk
import Derived.WalkKit
import Derived.WalkLawsBesides
import Derived.Outline
import Derived.Lib.Hide
import Derived.Below
import Derived.BigQuiet
import Derived.Lib.Varint
set_option maxRecDepth 100000
set_option maxHeartbeats 16000000
namespace Go.Proofs.YtnpfhcnjkekhbaaGreatDoor
open Go Go.Proofs Go.RowKit Go.Lib
open W1 (scan maxZ unz scan_of_enc scan_is_enc zigzag_le unz_range unz_zigzag zigzag_unz)
/-! ### integers -/
def encI (x : Int) : List UInt8 := uvarint (zigzag x)
def FitI (x : Int) : Prop := -4611686018427387903 ≤ x ∧ x ≤ 4611686018427387903
def getI (s : List UInt8) : Option (Int × List UInt8) := match scan 0 0 s with
 | none => none
 | some (z, n) => some (unz z, s.drop n)
theorem getI_enc {x : Int} (h : FitI x) (q : List UInt8) : getI (encI x ++ q) = some (x, q) := by
 unfold getI encI
 rw [scan_of_enc (zigzag_le h.1 h.2) q]
 dsimp only
 rw [unz_zigzag, List.drop_left]
def encL (l : List Int) : List UInt8 := l.flatMap encI
theorem encL_cons (x : Int) (l : List Int) : encL (x :: l) = encI x ++ encL l := rfl
def getL : Nat → List UInt8 → Option (List Int × List UInt8)
 | 0, s => some ([], s)
 | n + 1, s => match getI s with
  | none => none
  | some (x, r) => match getL n r with
   | none => none
   | some (l, t) => some (x :: l, t)
theorem getL_enc : ∀ (l : List Int) (q : List UInt8), (∀ x ∈ l, FitI x) → getL l.length (encL l ++ q) = some (l, q)
 | [], q, _ => rfl
 | x :: l, q, h => by
  rw [encL_cons, List.append_assoc]
  show (match getI (encI x ++ (encL l ++ q)) with
   | none => none
   | some (x, r) => match getL l.length r with
    | none => none
    | some (l, t) => some (x :: l, t)) = _
  rw [getI_enc (h x List.mem_cons_self)]
  dsimp only
  rw [getL_enc l q (fun y hy => h y (List.mem_cons_of_mem _ hy))]
def Ev.nums (e : Ev) : List Int := [e.ag, e.sq, e.tm, e.kd, e.tr, e.sp, e.lk, e.gn, e.op, e.vr, e.pe, e.bt]
def evOf (l : List Int) : Ev := ⟨l.getD 0 0, l.getD 1 0, l.getD 2 0, l.getD 3 0, l.getD 4 0, l.getD 5 0, l.getD 6 0, l.getD 7 0, l.getD 8 0, l.getD 9 0, l.getD 10 0, l.getD 11 0⟩
theorem evOf_nums (e : Ev) : evOf e.nums = e := rfl
theorem evB_bd {e : Ev} (h : evB e = true) : (0 ≤ e.kd ∧ e.kd ≤ 7) ∧ (-1 ≤ e.lk ∧ e.lk ≤ 99) ∧ (0 ≤ e.op ∧ e.op ≤ 11) ∧ (0 ≤ e.vr ∧ e.vr ≤ 9) ∧ (-1 ≤ e.pe ∧ e.pe ≤ 19) := by
 unfold evB at h
 simp only [Bool.and_eq_true] at h
 have h7 := h.2
 split at h7
 · rename_i hk
   simp only [Bool.and_eq_true, beq_iff_eq] at h7 hk
   obtain ⟨⟨⟨⟨⟨l1, _⟩, _⟩, o1⟩, v1⟩, p1⟩ := h7
   have := of_inB l1; have := of_inB o1; have := of_inB v1; have := of_inB p1
   omega
 · rw [Bool.and_eq_true] at h7
   obtain ⟨z, h8⟩ := h7
   simp only [Bool.and_eq_true, beq_iff_eq] at z
   split at h8
   · rename_i hk
     simp only [Bool.and_eq_true, beq_iff_eq] at h8 hk
     omega
   · split at h8
     · rename_i hk
       simp only [Bool.and_eq_true, Bool.or_eq_true, beq_iff_eq] at h8 hk
       have := of_inB h8.1
       omega
     · split at h8
       · rename_i hk
         simp only [Bool.and_eq_true, Bool.or_eq_true, beq_iff_eq] at h8 hk
         have := of_inB h8.1
         omega
       · split at h8
         · rename_i hk
           simp only [Bool.and_eq_true, beq_iff_eq] at h8 hk
           have := of_inB h8.1
           omega
         · cases h8
theorem nums_fit {e : Ev} (h : evB e = true) : ∀ x ∈ e.nums, FitI x := by
 obtain ⟨h1, h2, h3, h4, h5, h6, h7⟩ := evB_of h
 obtain ⟨k1, k2, k3, k4, k5⟩ := evB_bd h
 intro x hx
 unfold Ev.nums at hx
 unfold FitI
 simp only [List.mem_cons, List.not_mem_nil, or_false] at hx
 rcases hx with rfl | rfl | rfl | rfl | rfl | rfl | rfl | rfl | rfl | rfl | rfl | rfl <;> omega
def encE (e : Ev) : List UInt8 := encL e.nums
def getE (s : List UInt8) : Option (Ev × List UInt8) := match getL 12 s with
 | none => none
 | some (l, r) => if evB (evOf l) = true then some (evOf l, r) else none
theorem getE_enc {e : Ev} (h : evB e = true) (q : List UInt8) : getE (encE e ++ q) = some (e, q) := by
 unfold getE encE
 have := getL_enc e.nums q (nums_fit h)
 rw [show e.nums.length = 12 from rfl] at this
 rw [this]
 dsimp only
 rw [evOf_nums, if_pos h]
theorem encE_inj {a b : Ev} (ha : evB a = true) (hb : evB b = true) {p q : List UInt8} (h : encE a ++ p = encE b ++ q) : a = b ∧ p = q := by
 have h1 := getE_enc ha p
 rw [h, getE_enc hb q] at h1
 simp only [Option.some.injEq, Prod.mk.injEq] at h1
 exact ⟨h1.1.symm, h1.2.symm⟩
def encEs (l : List Ev) : List UInt8 := l.flatMap encE
theorem encEs_cons (e : Ev) (l : List Ev) : encEs (e :: l) = encE e ++ encEs l := rfl
structure Bt where
 (ag fs lw : Int)
 ev : List Ev
 hd : ByteArray
def numB (ag fs : Int) (l : List Ev) : Bool := (List.range l.length).all fun i => evB (evD l i) && (evD l i).ag == ag && (evD l i).sq == fs + (i : Int)
def btB (b : Bt) : Bool := inB b.ag 0 5 && inB b.fs 0 999 && decide (b.ev.length ≤ 24) && inB b.lw 0 1000 && decide (b.hd.size = 32) && numB b.ag b.fs b.ev
theorem numB_of {ag fs : Int} {l : List Ev} (h : numB ag fs l = true) : ∀ i, i < l.length → evB (evD l i) = true ∧ (evD l i).ag = ag ∧ (evD l i).sq = fs + (i : Int) := fun i hi => by
 have := List.all_eq_true.1 h i (List.mem_range.2 hi)
 simp only [Bool.and_eq_true, beq_iff_eq] at this
 exact ⟨this.1.1, this.1.2, this.2⟩
theorem numB_yes {ag fs : Int} {l : List Ev} (h : ∀ i, i < l.length → evB (evD l i) = true ∧ (evD l i).ag = ag ∧ (evD l i).sq = fs + (i : Int)) : numB ag fs l = true := List.all_eq_true.2 fun i hi => by
 obtain ⟨h1, h2, h3⟩ := h i (List.mem_range.1 hi)
 simp only [Bool.and_eq_true, beq_iff_eq]
 exact ⟨⟨h1, h2⟩, h3⟩
theorem numB_ev {ag fs : Int} {l : List Ev} (h : numB ag fs l = true) : ∀ x ∈ l, evB x = true := fun x hx => by
 obtain ⟨i, hi, rfl⟩ := List.getElem_of_mem hx
 have := (numB_of h i hi).1
 rwa [evD_of hi] at this
theorem btB_of {b : Bt} (h : btB b = true) : (0 ≤ b.ag ∧ b.ag ≤ 5) ∧ (0 ≤ b.fs ∧ b.fs ≤ 999) ∧ b.ev.length ≤ 24 ∧ (0 ≤ b.lw ∧ b.lw ≤ 1000) ∧ b.hd.size = 32 ∧ numB b.ag b.fs b.ev = true := by
 unfold btB at h
 simp only [Bool.and_eq_true] at h
 obtain ⟨⟨⟨⟨⟨h1, h2⟩, h3⟩, h4⟩, h5⟩, h6⟩ := h
 exact ⟨of_inB h1, of_inB h2, of_decide_eq_true h3, of_inB h4, of_decide_eq_true h5, h6⟩
def Bt.nums (b : Bt) : List Int := [b.ag, b.fs, b.lw, (b.ev.length : Int)]
theorem bt_fit {b : Bt} (h : btB b = true) : ∀ x ∈ b.nums, FitI x := by
 obtain ⟨h1, h2, h3, h4, _⟩ := btB_of h
 intro x hx
 unfold Bt.nums at hx
 unfold FitI
 simp only [List.mem_cons, List.not_mem_nil, or_false] at hx
 rcases hx with rfl | rfl | rfl | rfl <;> omega
def encB (b : Bt) : List UInt8 := encL b.nums ++ (encEs b.ev ++ b.hd.data.toList)
end Go.Proofs.YtnpfhcnjkekhbaaGreatDoor

namespace Go.Proofs.YtnpfhcnjkekhbaaGreatDoor
open Go Go.Proofs Go.RowKit Go.Lib
structure S6 where
 (a b c d e f : Int)
instance : Inhabited S6 := ⟨⟨0, 0, 0, 0, 0, 0⟩⟩
def S6.cells (x : S6) : List Value := [.int .i64 x.a, .int .i64 x.b, .int .i64 x.c, .int .i64 x.d, .int .i64 x.e, .int .i64 x.f]
def mdE (ag sq tm : Int) (x : S6) : Ev :=
 if pick8 x.a 7 = 0 then ⟨ag, sq, tm, 1, pick8 x.b 6, pick8 x.c 10, if pick8 x.d 3 = 0 then -1 else (pick8 x.c 10 + 1 + pick8 x.d 9) % 10, 0, pick8 x.e 4, pick8 (x.e.tdiv 4) 3, pick8 x.f 5 - 1, pick8 x.f 100⟩
 else if pick8 x.a 7 = 1 then ⟨ag, sq, tm, 2, pick8 x.b 6, pick8 x.c 10, 0, 0, 0, 0, 0, pick8 x.f 100⟩
 else if pick8 x.a 7 = 2 ∨ pick8 x.a 7 = 3 then ⟨ag, sq, tm, 1 + pick8 x.a 7, pick8 x.b 6, pick8 x.c 10, pick8 x.d 8, 0, 0, 0, 0, pick8 x.f 100⟩
 else if pick8 x.a 7 = 4 ∨ pick8 x.a 7 = 5 then ⟨ag, sq, tm, 1 + pick8 x.a 7, pick8 x.b 6, pick8 x.c 10, pick8 x.d 3, pick8 x.e 3, 0, 0, 0, pick8 x.f 100⟩
 else ⟨ag, sq, tm, 7, pick8 x.b 6, pick8 x.c 10, pick8 x.d 10, 0, 0, 0, 0, pick8 x.f 100⟩
theorem mdE_ag (ag sq tm : Int) (x : S6) : (mdE ag sq tm x).ag = ag ∧ (mdE ag sq tm x).sq = sq ∧ (mdE ag sq tm x).tm = tm := by
 unfold mdE
 split
 · exact ⟨rfl, rfl, rfl⟩
 · split
   · exact ⟨rfl, rfl, rfl⟩
   · split
     · exact ⟨rfl, rfl, rfl⟩
     · split <;> exact ⟨rfl, rfl, rfl⟩
theorem mdE_ok {ag sq tm : Int} (a0 : 0 ≤ ag) (a1 : ag ≤ 5) (s0 : 0 ≤ sq) (s1 : sq ≤ 999) (t0 : 0 ≤ tm) (t1 : tm ≤ 1000000) (x : S6) : evB (mdE ag sq tm x) = true := by
 have k0 := pick8_lo (c := x.a) (n := 7) (by decide); have k1 := pick8_hi (c := x.a) (n := 7) (by decide)
 have b0 := pick8_lo (c := x.b) (n := 6) (by decide); have b1 := pick8_hi (c := x.b) (n := 6) (by decide)
 have c0 := pick8_lo (c := x.c) (n := 10) (by decide); have c1 := pick8_hi (c := x.c) (n := 10) (by decide)
 have d0 := pick8_lo (c := x.d) (n := 9) (by decide); have d1 := pick8_hi (c := x.d) (n := 9) (by decide)
 have e0 := pick8_lo (c := x.d) (n := 8) (by decide); have e1 := pick8_hi (c := x.d) (n := 8) (by decide)
 have f0 := pick8_lo (c := x.d) (n := 3) (by decide); have f1 := pick8_hi (c := x.d) (n := 3) (by decide)
 have g0 := pick8_lo (c := x.d) (n := 10) (by decide); have g1 := pick8_hi (c := x.d) (n := 10) (by decide)
 have h0 := pick8_lo (c := x.e) (n := 4) (by decide); have h1 := pick8_hi (c := x.e) (n := 4) (by decide)
 have i0 := pick8_lo (c := x.e) (n := 3) (by decide); have i1 := pick8_hi (c := x.e) (n := 3) (by decide)
 have j0 := pick8_lo (c := x.e.tdiv 4) (n := 3) (by decide); have j1 := pick8_hi (c := x.e.tdiv 4) (n := 3) (by decide)
 have l0 := pick8_lo (c := x.f) (n := 5) (by decide); have l1 := pick8_hi (c := x.f) (n := 5) (by decide)
 have m0 := pick8_lo (c := x.f) (n := 100) (by decide); have m1 := pick8_hi (c := x.f) (n := 100) (by decide)
 unfold mdE
 generalize pick8 x.a 7 = A at *
 generalize pick8 x.b 6 = B at *
 generalize pick8 x.c 10 = C at *
 generalize pick8 x.d 9 = D9 at *
 generalize pick8 x.d 8 = D8 at *
 generalize pick8 x.d 3 = D3 at *
 generalize pick8 x.d 10 = D10 at *
 generalize pick8 x.e 4 = E4 at *
 generalize pick8 x.e 3 = E3 at *
 generalize pick8 (x.e.tdiv 4) 3 = E5 at *
 generalize pick8 x.f 5 = F5 at *
 generalize pick8 x.f 100 = F1 at *
 have q1 := inB_yes a0 a1; have q2 := inB_yes s0 s1; have q3 := inB_yes t0 t1
 have q4 := inB_yes (n := B) (lo := 0) (hi := 999) (by omega) (by omega); have q5 := inB_yes (n := C) (lo := 0) (hi := 9) (by omega) (by omega); have q6 := inB_yes (n := F1) (lo := 0) (hi := 1000) (by omega) (by omega)
 split
 · have hlk : inB (if D3 = 0 then -1 else (C + 1 + D9) % 10) (-1) 9 = true := by split <;> exact inB_yes (by omega) (by omega)
   have hne : ((if D3 = 0 then -1 else (C + 1 + D9) % 10) != C) = true := by
    rw [bne_iff_ne]
    split <;> omega
   have h3 := inB_yes (n := E4) (lo := 0) (hi := 11) (by omega) (by omega); have h4 := inB_yes (n := E5) (lo := 0) (hi := 9) (by omega) (by omega); have h5 := inB_yes (n := F5 - 1) (lo := -1) (hi := 19) (by omega) (by omega)
   unfold evB
   dsimp only
   rw [q1, q2, q3, q4, q5, q6, hlk, hne, h3, h4, h5]
   rfl
 · split
   · unfold evB
     dsimp only
     rw [q1, q2, q3, q4, q5, q6]
     rfl
   · split
     · have h3 := inB_yes (n := D8) (lo := 0) (hi := 99) (by omega) (by omega)
       rename_i hk
       have e1 : (1 + A == 1) = false := by rw [beq_eq_false_iff_ne]; omega
       have e2 : (1 + A == 2) = false := by rw [beq_eq_false_iff_ne]; omega
       have e3 : (1 + A == 3 || 1 + A == 4) = true := by rw [Bool.or_eq_true, beq_iff_eq, beq_iff_eq]; omega
       unfold evB
       dsimp only
       rw [q1, q2, q3, q4, q5, q6, e1, e2, e3, h3]
       rfl
     · split
       · have h3 := inB_yes (n := D3) (lo := 0) (hi := 99) (by omega) (by omega); have h4 := inB_yes (n := E3) (lo := 0) (hi := 99) (by omega) (by omega)
         rename_i hk
         have e1 : (1 + A == 1) = false := by rw [beq_eq_false_iff_ne]; omega
         have e2 : (1 + A == 2) = false := by rw [beq_eq_false_iff_ne]; omega
         have e3 : (1 + A == 3 || 1 + A == 4) = false := by rw [Bool.or_eq_false_iff, beq_eq_false_iff_ne, beq_eq_false_iff_ne]; omega
         have e4 : (1 + A == 5 || 1 + A == 6) = true := by rw [Bool.or_eq_true, beq_iff_eq, beq_iff_eq]; omega
         unfold evB
         dsimp only
         rw [q1, q2, q3, q4, q5, q6, e1, e2, e3, e4, h3, h4]
         rfl
       · have h3 := inB_yes (n := D10) (lo := 0) (hi := 9) (by omega) (by omega)
         unfold evB
         dsimp only
         rw [q1, q2, q3, q4, q5, q6, h3]
         rfl
def atK (l : List S6) (k : Nat) : Int := ((List.range k).map fun i => pick8 (l.getD i default).f 50).sum
theorem atK_step (l : List S6) (k : Nat) : atK l (k + 1) = atK l k + pick8 (l.getD k default).f 50 := by
 unfold atK
 rw [List.range_succ, List.map_append, List.sum_append]
 simp
theorem atK_bd (l : List S6) : ∀ k : Nat, 0 ≤ atK l k ∧ atK l k ≤ 50 * (k : Int)
 | 0 => by simp [atK]
 | k + 1 => by
  have h := atK_bd l k
  have p0 := pick8_lo (c := (l.getD k default).f) (n := 50) (by decide)
  have p1 := pick8_hi (c := (l.getD k default).f) (n := 50) (by decide)
  rw [atK_step]
  omega
def strK (ag : Int) (l : List S6) (k : Nat) : List Ev := (List.range k).map fun (i : Nat) => mdE (pick8 ag 6) (i : Int) (atK l (i + 1)) (l.getD i default)
def strN (l : List S6) : Nat := if l.length < 20 then l.length else 20
def strL (ag : Int) (l : List S6) : List Ev := strK ag l (strN l)
theorem strK_step (ag : Int) (l : List S6) (k : Nat) : strK ag l (k + 1) = strK ag l k ++ [mdE (pick8 ag 6) (k : Int) (atK l (k + 1)) (l.getD k default)] := by
 unfold strK
 rw [List.range_succ, List.map_append]
 simp
theorem strK_len (ag : Int) (l : List S6) (k : Nat) : (strK ag l k).length = k := by unfold strK; simp
theorem strN_le (l : List S6) : strN l ≤ 20 := by unfold strN; split <;> omega
theorem strL_len (ag : Int) (l : List S6) : (strL ag l).length = strN l := strK_len _ _ _
theorem strK_get (ag : Int) (l : List S6) (k i : Nat) (h : i < k) : evD (strK ag l k) i = mdE (pick8 ag 6) (i : Int) (atK l (i + 1)) (l.getD i default) := by
 rw [evD_of (by rw [strK_len]; exact h)]
 unfold strK
 simp
theorem strL_num (ag : Int) (l : List S6) : numB (pick8 ag 6) 0 (strL ag l) = true := numB_yes fun i hi => by
 rw [strL_len] at hi
 have hn := strN_le l
 have p0 := pick8_lo (c := ag) (n := 6) (by decide)
 have p1 := pick8_hi (c := ag) (n := 6) (by decide)
 have ha := atK_bd l (i + 1)
 have hb : (((i + 1 : Nat) : Int)) ≤ 20 := by omega
 show evB (evD (strK ag l (strN l)) i) = true ∧ (evD (strK ag l (strN l)) i).ag = pick8 ag 6 ∧ (evD (strK ag l (strN l)) i).sq = 0 + (i : Int)
 rw [strK_get _ _ _ _ hi]
 obtain ⟨h1, h2, _⟩ := mdE_ag (pick8 ag 6) (i : Int) (atK l (i + 1)) (l.getD i default)
 exact ⟨mdE_ok p0 (by omega) (by omega) (by omega) ha.1 (by omega) _, h1, by rw [h2]; omega⟩
end Go.Proofs.YtnpfhcnjkekhbaaGreatDoor

namespace Go.Proofs.YtnpfhcnjkekhbaaGreatDoor
open Go Go.Proofs Go.RowKit Go.Lib
/-! ### sizes -/
def cutR (n : Int) (c : List Int) : Nat → Int
 | 0 => n
 | k + 1 => cutR n c k - min (cutR n c k) (pick8 (c.getD k 0) 5)
def cut1 (n : Int) (c : List Int) (k : Nat) : Int := min (cutR n c k) (pick8 (c.getD k 0) 5)
def cutP (n : Int) (c : List Int) (k : Nat) : List Int := (List.range k).map (cut1 n c)
def cutN (c : List Int) : Nat := if c.length < 12 then c.length else 12
def cutL (n : Int) (c : List Int) : List Int := cutP n c (cutN c) ++ if 0 < cutR n c (cutN c) then [cutR n c (cutN c)] else []
theorem cutR_step (n : Int) (c : List Int) (k : Nat) : cutR n c (k + 1) = cutR n c k - cut1 n c k := rfl
theorem cutP_step (n : Int) (c : List Int) (k : Nat) : cutP n c (k + 1) = cutP n c k ++ [cut1 n c k] := by
 unfold cutP
 rw [List.range_succ, List.map_append]
 rfl
theorem cutP_len (n : Int) (c : List Int) (k : Nat) : (cutP n c k).length = k := by unfold cutP; simp
theorem cutR_bd {n : Int} (h : 0 ≤ n) (c : List Int) : ∀ k, 0 ≤ cutR n c k ∧ cutR n c k ≤ n
 | 0 => ⟨h, Int.le_refl _⟩
 | k + 1 => by
  have := cutR_bd h c k
  have p0 := pick8_lo (c := c.getD k 0) (n := 5) (by decide)
  show 0 ≤ cutR n c k - min (cutR n c k) (pick8 (c.getD k 0) 5) ∧ cutR n c k - min (cutR n c k) (pick8 (c.getD k 0) 5) ≤ n
  omega
theorem cut1_bd {n : Int} (h : 0 ≤ n) (c : List Int) (k : Nat) : 0 ≤ cut1 n c k ∧ cut1 n c k ≤ 4 ∧ cut1 n c k ≤ cutR n c k := by
 have := cutR_bd h c k
 have p0 := pick8_lo (c := c.getD k 0) (n := 5) (by decide)
 have p1 := pick8_hi (c := c.getD k 0) (n := 5) (by decide)
 unfold cut1
 omega
theorem cutP_sum (n : Int) (c : List Int) : ∀ k, (cutP n c k).sum = n - cutR n c k
 | 0 => by simp [cutP, cutR]
 | k + 1 => by
  rw [cutP_step, List.sum_append, cutP_sum n c k, cutR_step]
  simp
  omega
theorem cutN_le (c : List Int) : cutN c ≤ 12 := by unfold cutN; split <;> omega
theorem cutL_sum {n : Int} (h : 0 ≤ n) (c : List Int) : (cutL n c).sum = n := by
 have hb := cutR_bd h c (cutN c)
 unfold cutL
 rw [List.sum_append, cutP_sum]
 split
 · simp
 · simp
   omega
theorem cutL_len (n : Int) (c : List Int) : (cutL n c).length ≤ 13 := by
 have := cutN_le c
 unfold cutL
 rw [List.length_append, cutP_len]
 split <;> simp <;> omega
theorem cutL_bd {n : Int} (h : 0 ≤ n) (h24 : n ≤ 24) (c : List Int) : ∀ x ∈ cutL n c, 0 ≤ x ∧ x ≤ 24 := by
 intro x hx
 unfold cutL at hx
 rcases List.mem_append.1 hx with hx | hx
 · unfold cutP at hx
   obtain ⟨i, _, rfl⟩ := List.mem_map.1 hx
   have := cut1_bd h c i
   omega
 · have hb := cutR_bd h c (cutN c)
   split at hx
   · simp only [List.mem_cons, List.not_mem_nil, or_false] at hx
     omega
   · cases hx
/-! ### lows -/
def endK (x : List Int) (k : Nat) : Int := (x.take k).sum
theorem endK_zero (x : List Int) : endK x 0 = 0 := rfl
theorem endK_step {x : List Int} {k : Nat} (h : k < x.length) : endK x (k + 1) = endK x k + x[k] := by
 unfold endK
 rw [List.take_succ_eq_append_getElem h, List.sum_append]
 simp
theorem endK_all (x : List Int) : endK x x.length = x.sum := by unfold endK; rw [List.take_length]
theorem sum_nonneg8 : ∀ (l : List Int), (∀ y ∈ l, 0 ≤ y) → 0 ≤ l.sum
 | [], _ => by simp
 | y :: l, h => by
  rw [List.sum_cons]
  have h1 := h y List.mem_cons_self
  have h2 := sum_nonneg8 l (fun z hz => h z (List.mem_cons_of_mem _ hz))
  omega
theorem endK_nonneg {x : List Int} (h : ∀ y ∈ x, 0 ≤ y) (k : Nat) : 0 ≤ endK x k := sum_nonneg8 _ fun y hy => h y (List.mem_of_mem_take hy)
theorem endK_le {x : List Int} (h : ∀ y ∈ x, 0 ≤ y) (k : Nat) : endK x k ≤ x.sum := by
 have h1 : x.sum = (x.take k).sum + (x.drop k).sum := by rw [← List.sum_append, List.take_append_drop]
 have h2 := sum_nonneg8 (x.drop k) fun y hy => h y (List.mem_of_mem_drop hy)
 unfold endK
 omega
def minT (l : List Ev) : Int := l.foldr (fun e m => min e.tr m) 1000
theorem minT_nil : minT [] = 1000 := rfl
theorem minT_cons (e : Ev) (l : List Ev) : minT (e :: l) = min e.tr (minT l) := rfl
theorem minT_bd : ∀ (l : List Ev), (∀ e ∈ l, 0 ≤ e.tr) → 0 ≤ minT l ∧ minT l ≤ 1000
 | [], _ => by simp [minT_nil]
 | x :: l, h => by
  have h1 := h x List.mem_cons_self
  have h2 := minT_bd l fun e he => h e (List.mem_cons_of_mem _ he)
  rw [minT_cons]
  omega
theorem minT_snoc : ∀ (l : List Ev) (e : Ev), minT (l ++ [e]) = min (minT l) e.tr ∨ 1000 < e.tr
 | [], e => by
  by_cases h : 1000 < e.tr
  · exact .inr h
  · left
    show min e.tr 1000 = min 1000 e.tr
    omega
 | x :: l, e => by
  rcases minT_snoc l e with h | h
  · left
    rw [List.cons_append, minT_cons, minT_cons, h]
    omega
  · exact .inr h
def lowK (l : List Ev) (x shy : List Int) (i : Nat) : Int := if i < shy.length then max 0 (minT (l.drop (endK x (i + 1)).toNat) - pick8 (shy.getD i 0) 3) else minT (l.drop (endK x (i + 1)).toNat)
def lowP (l : List Ev) (x shy : List Int) (k : Nat) : List Int := (List.range k).map (lowK l x shy)
def lowL (l : List Ev) (x shy : List Int) : List Int := lowP l x shy x.length
theorem lowP_step (l : List Ev) (x shy : List Int) (k : Nat) : lowP l x shy (k + 1) = lowP l x shy k ++ [lowK l x shy k] := by
 unfold lowP
 rw [List.range_succ, List.map_append]
 rfl
theorem lowP_len (l : List Ev) (x shy : List Int) (k : Nat) : (lowP l x shy k).length = k := by unfold lowP; simp
theorem lowK_le (l : List Ev) (x shy : List Int) (i : Nat) (ht : ∀ e ∈ l, 0 ≤ e.tr) : lowK l x shy i ≤ minT (l.drop (endK x (i + 1)).toNat) ∧ 0 ≤ lowK l x shy i ∧ lowK l x shy i ≤ 1000 := by
 have hb := minT_bd (l.drop (endK x (i + 1)).toNat) fun e he => ht e (List.mem_of_mem_drop he)
 have p0 := pick8_lo (c := shy.getD i 0) (n := 3) (by decide)
 unfold lowK
 split <;> omega
/-! ### parts -/
def chH (H : ByteArray → ByteArray → ByteArray) (h : ByteArray) (l : List Ev) : ByteArray := l.foldl (fun h e => H h ⟨(encE e).toArray⟩) h
theorem chH_append (H : ByteArray → ByteArray → ByteArray) (h : ByteArray) (a b : List Ev) : chH H h (a ++ b) = chH H (chH H h a) b := by
 unfold chH
 rw [List.foldl_append]
theorem chH_snoc (H : ByteArray → ByteArray → ByteArray) (h : ByteArray) (a : List Ev) (e : Ev) : chH H h (a ++ [e]) = H (chH H h a) ⟨(encE e).toArray⟩ := by
 rw [chH_append]
 rfl
theorem chH_size {H : ByteArray → ByteArray → ByteArray} (hH : ∀ a b, (H a b).size = 32) {h : ByteArray} (h0 : h.size = 32) : ∀ (l : List Ev), (chH H h l).size = 32 := by
 intro l
 induction l generalizing h with
 | nil => exact h0
 | cons e l ih => exact ih (hH _ _)
end Go.Proofs.YtnpfhcnjkekhbaaGreatDoor

namespace Go.Proofs.YtnpfhcnjkekhbaaGreatDoor
open Go Go.Proofs Go.RowKit Go.Lib
def okX (x : List Int) (n : Nat) : Bool := decide (x.length ≤ 200) && (x.all fun v => inB v 0 24) && decide (x.sum = (n : Int))
def okY (y : List Int) (k : Nat) : Bool := decide (y.length = k) && !(y.any fun v => !inB v 0 1000)
def keepB (lw : Int) (l : List Ev) : Bool := !(l.any fun e => decide (e.tr < lw))
def ptB9 (l : List Ev) (x y : List Int) (i : Nat) : Bool := inB (endK x i) 0 999 && keepB (y.getD i 0) (l.drop (endK x (i + 1)).toNat)
def splB (ag : Int) (l : List Ev) (x y : List Int) : Bool := inB ag 0 5 && numB ag 0 l && okX x l.length && okY y x.length && (List.range x.length).all fun i => ptB9 l x y i
def zz32 : ByteArray := ⟨(List.replicate 32 (0 : UInt8)).toArray⟩
theorem zz32_size : zz32.size = 32 := by decide
def partE (H : ByteArray → ByteArray → ByteArray) (ag : Int) (l : List Ev) (x y : List Int) (i : Nat) : Bt :=
 ⟨ag, endK x i, y.getD i 0, (l.drop (endK x i).toNat).take (x.getD i 0).toNat, chH H zz32 (l.take (endK x (i + 1)).toNat)⟩
theorem keepB_iff (lw : Int) (l : List Ev) : keepB lw l = true ↔ ∀ e ∈ l, lw ≤ e.tr := by
 unfold keepB
 rw [Bool.not_eq_true', List.any_eq_false]
 constructor
 · intro h e he
   have := h e he
   simp only [decide_eq_true_eq] at this
   omega
 · intro h e he
   have := h e he
   simp only [decide_eq_true_eq]
   omega
theorem minT_iff : ∀ (l : List Ev) (lw : Int), lw ≤ 1000 → (lw ≤ minT l ↔ ∀ e ∈ l, lw ≤ e.tr)
 | [], lw, h => by simp [minT_nil, h]
 | x :: l, lw, h => by
  have ih := minT_iff l lw h
  rw [minT_cons]
  simp only [List.mem_cons, forall_eq_or_imp]
  rw [← ih]
  omega
theorem keepB_min {lw : Int} {l : List Ev} (h : lw ≤ 1000) : keepB lw l = true ↔ lw ≤ minT l := by rw [keepB_iff, minT_iff l lw h]
theorem okX_of {x : List Int} {n : Nat} (h : okX x n = true) : x.length ≤ 200 ∧ (∀ v ∈ x, 0 ≤ v ∧ v ≤ 24) ∧ x.sum = (n : Int) := by
 unfold okX at h
 simp only [Bool.and_eq_true, decide_eq_true_eq, List.all_eq_true] at h
 exact ⟨h.1.1, fun v hv => of_inB (h.1.2 v hv), h.2⟩
theorem okX_yes {x : List Int} {n : Nat} (h1 : x.length ≤ 200) (h2 : ∀ v ∈ x, 0 ≤ v ∧ v ≤ 24) (h3 : x.sum = (n : Int)) : okX x n = true := by
 unfold okX
 simp only [Bool.and_eq_true, decide_eq_true_eq, List.all_eq_true]
 exact ⟨⟨h1, fun v hv => inB_yes (h2 v hv).1 (h2 v hv).2⟩, h3⟩
theorem okY_of {y : List Int} {k : Nat} (h : okY y k = true) : y.length = k ∧ ∀ v ∈ y, 0 ≤ v ∧ v ≤ 1000 := by
 unfold okY at h
 simp only [Bool.and_eq_true, decide_eq_true_eq, Bool.not_eq_true', List.any_eq_false] at h
 refine ⟨h.1, fun v hv => ?_⟩
 have := h.2 v hv
 cases hb : inB v 0 1000 with
 | true => exact of_inB hb
 | false => rw [hb] at this; simp at this
theorem okY_yes {y : List Int} {k : Nat} (h1 : y.length = k) (h2 : ∀ v ∈ y, 0 ≤ v ∧ v ≤ 1000) : okY y k = true := by
 unfold okY
 simp only [Bool.and_eq_true, decide_eq_true_eq, Bool.not_eq_true', List.any_eq_false]
 refine ⟨h1, fun v hv => ?_⟩
 rw [inB_yes (h2 v hv).1 (h2 v hv).2]
 simp
structure SplOk (ag : Int) (l : List Ev) (x y : List Int) : Prop where
 ga : 0 ≤ ag ∧ ag ≤ 5
 nm : numB ag 0 l = true
 xn : x.length ≤ 200
 xb : ∀ v ∈ x, 0 ≤ v ∧ v ≤ 24
 xs : x.sum = (l.length : Int)
 yn : y.length = x.length
 yb : ∀ v ∈ y, 0 ≤ v ∧ v ≤ 1000
 pt : ∀ i, i < x.length → ptB9 l x y i = true
theorem splB_iff (ag : Int) (l : List Ev) (x y : List Int) : splB ag l x y = true ↔ SplOk ag l x y := by
 unfold splB
 simp only [Bool.and_eq_true, List.all_eq_true, List.mem_range]
 constructor
 · rintro ⟨⟨⟨⟨h1, h2⟩, h3⟩, h4⟩, h5⟩
   obtain ⟨a, b, c⟩ := okX_of h3
   obtain ⟨d, e⟩ := okY_of h4
   exact ⟨of_inB h1, h2, a, b, c, d, e, h5⟩
 · intro h
   exact ⟨⟨⟨⟨inB_yes h.ga.1 h.ga.2, h.nm⟩, okX_yes h.xn h.xb h.xs⟩, okY_yes h.yn h.yb⟩, h.pt⟩
theorem getD_mem8 {x : List Int} {i : Nat} (h : i < x.length) : x.getD i 0 ∈ x := by
 rw [List.getD_eq_getElem?_getD, List.getElem?_eq_getElem h]
 exact List.getElem_mem h
theorem endK_getD {x : List Int} {k : Nat} (h : k < x.length) : endK x (k + 1) = endK x k + x.getD k 0 := by
 rw [endK_step h, List.getD_eq_getElem?_getD, List.getElem?_eq_getElem h]
 rfl
theorem SplOk.ends {ag : Int} {l : List Ev} {x y : List Int} (h : SplOk ag l x y) (i : Nat) (hi : i < x.length) :
 0 ≤ endK x i ∧ 0 ≤ x.getD i 0 ∧ x.getD i 0 ≤ 24 ∧ endK x (i + 1) = endK x i + x.getD i 0 ∧ endK x (i + 1) ≤ (l.length : Int) := by
 have h0 : ∀ v ∈ x, 0 ≤ v := fun v hv => (h.xb v hv).1
 have h1 := h.xb _ (getD_mem8 hi)
 have h2 := endK_le h0 (i + 1)
 rw [h.xs] at h2
 exact ⟨endK_nonneg h0 i, h1.1, h1.2, endK_getD hi, h2⟩
theorem SplOk.take {ag : Int} {l : List Ev} {x y : List Int} (h : SplOk ag l x y) (H : ByteArray → ByteArray → ByteArray) (i : Nat) (hi : i < x.length) : l.take (endK x i).toNat ++ (partE H ag l x y i).ev = l.take (endK x (i + 1)).toNat := by
 obtain ⟨h1, h2, h3, h4, h5⟩ := h.ends i hi
 rw [h4, show (endK x i + x.getD i 0).toNat = (endK x i).toNat + (x.getD i 0).toNat by omega]
 exact List.take_add.symm
theorem SplOk.len {ag : Int} {l : List Ev} {x y : List Int} (h : SplOk ag l x y) (H : ByteArray → ByteArray → ByteArray) (i : Nat) (hi : i < x.length) : ((partE H ag l x y i).ev.length : Int) = x.getD i 0 := by
 obtain ⟨h1, h2, h3, h4, h5⟩ := h.ends i hi
 show (((l.drop (endK x i).toNat).take (x.getD i 0).toNat).length : Int) = _
 rw [List.length_take, List.length_drop]
 omega
theorem SplOk.head {ag : Int} {l : List Ev} {x y : List Int} (h : SplOk ag l x y) (H : ByteArray → ByteArray → ByteArray) (i : Nat) (hi : i < x.length) : (partE H ag l x y i).hd = chH H (chH H zz32 (l.take (endK x i).toNat)) (partE H ag l x y i).ev := by
 rw [← chH_append, h.take H i hi]
 rfl
theorem SplOk.all {ag : Int} {l : List Ev} {x y : List Int} (h : SplOk ag l x y) : l.take (endK x x.length).toNat = l := by
 rw [endK_all, h.xs]
 exact List.take_of_length_le (by omega)
theorem evD_drop (l : List Ev) (a k : Nat) : evD (l.drop a) k = evD l (a + k) := by
 unfold evD
 rw [List.getD_eq_getElem?_getD, List.getD_eq_getElem?_getD, List.getElem?_drop]
theorem evD_take {l : List Ev} {a k : Nat} (h : k < a) : evD (l.take a) k = evD l k := by
 unfold evD
 rw [List.getD_eq_getElem?_getD, List.getD_eq_getElem?_getD, List.getElem?_take_of_lt h]
theorem SplOk.bt {ag : Int} {l : List Ev} {x y : List Int} (h : SplOk ag l x y) {H : ByteArray → ByteArray → ByteArray} (hH : ∀ a b, (H a b).size = 32) (i : Nat) (hi : i < x.length) : btB (partE H ag l x y i) = true := by
 obtain ⟨h1, h2, h3, h4, h5⟩ := h.ends i hi
 have hp := h.pt i hi
 unfold ptB9 at hp
 rw [Bool.and_eq_true] at hp
 have hf := of_inB hp.1
 have hy := h.yb _ (getD_mem8 (by rw [h.yn]; exact hi))
 have hl := h.len H i hi
 have hn : numB ag (endK x i) (partE H ag l x y i).ev = true := numB_yes fun j hj => by
  have hj2 : (endK x i).toNat + j < l.length := by omega
  have := numB_of h.nm _ hj2
  show evB (evD ((l.drop (endK x i).toNat).take (x.getD i 0).toNat) j) = true ∧ _ ∧ _
  have hjj : evD ((l.drop (endK x i).toNat).take (x.getD i 0).toNat) j = evD l ((endK x i).toNat + j) := by rw [evD_take (by omega), evD_drop]
  refine ⟨by rw [hjj]; exact this.1, ?_, ?_⟩
  · show (evD ((l.drop (endK x i).toNat).take (x.getD i 0).toNat) j).ag = ag
    rw [hjj]; exact this.2.1
  · show (evD ((l.drop (endK x i).toNat).take (x.getD i 0).toNat) j).sq = _
    rw [hjj, this.2.2]
    omega
 unfold btB
 simp only [Bool.and_eq_true, decide_eq_true_eq]
 refine ⟨⟨⟨⟨⟨inB_yes h.ga.1 h.ga.2, hp.1⟩, by omega⟩, inB_yes hy.1 hy.2⟩, chH_size hH zz32_size _⟩, hn⟩
theorem splOk_made (ag : Int) (l : List S6) (c : List Int) (y : List Int) (hy : y.length = (cutL (strN l) c).length) (hyb : ∀ v ∈ y, 0 ≤ v ∧ v ≤ 1000)
 (hk : ∀ i, i < y.length → y.getD i 0 ≤ minT ((strL ag l).drop (endK (cutL (strN l) c) (i + 1)).toNat)) : SplOk (pick8 ag 6) (strL ag l) (cutL (strN l) c) y := by
 have hn := strN_le l
 have hN : ((strN l : Nat) : Int) ≤ 20 := by omega
 have h0 : (0 : Int) ≤ (strN l : Nat) := by omega
 have p0 := pick8_lo (c := ag) (n := 6) (by decide)
 have p1 := pick8_hi (c := ag) (n := 6) (by decide)
 have hl := cutL_len (strN l : Nat) c
 have hs := cutL_sum h0 c
 have hb := cutL_bd h0 (by omega) c
 refine ⟨⟨p0, by omega⟩, strL_num ag l, by omega, hb, by rw [hs, strL_len], hy, hyb, fun i hi => ?_⟩
 have hb0 : ∀ v ∈ cutL ((strN l : Nat) : Int) c, 0 ≤ v := fun v hv => (hb v hv).1
 have e1 := endK_nonneg hb0 i
 have e2 := endK_le hb0 i
 rw [hs] at e2
 unfold ptB9
 rw [Bool.and_eq_true]
 have hyi := hyb _ (getD_mem8 (by rw [hy]; exact hi))
 exact ⟨inB_yes e1 (by omega), (keepB_min hyi.2).2 (hk i (by rw [hy]; exact hi))⟩
theorem lowL_len (l : List Ev) (x shy : List Int) : (lowL l x shy).length = x.length := lowP_len _ _ _ _
theorem lowL_get (l : List Ev) (x shy : List Int) (i : Nat) (h : i < x.length) : (lowL l x shy).getD i 0 = lowK l x shy i := by
 unfold lowL lowP
 rw [List.getD_eq_getElem?_getD, List.getElem?_map, List.getElem?_range h]
 rfl
theorem str_tr (ag : Int) (l : List S6) : ∀ e ∈ strL ag l, 0 ≤ e.tr := fun e he => (by
 have := evB_of (numB_ev (strL_num ag l) e he)
 exact this.2.2.2.1.1)
theorem lowL_bd (ag : Int) (l : List S6) (x shy : List Int) : ∀ v ∈ lowL (strL ag l) x shy, 0 ≤ v ∧ v ≤ 1000 := fun v hv => by
 unfold lowL lowP at hv
 obtain ⟨i, _, rfl⟩ := List.mem_map.1 hv
 exact (lowK_le (strL ag l) x shy i (str_tr ag l)).2
theorem splOk_low (ag : Int) (l : List S6) (c shy : List Int) : SplOk (pick8 ag 6) (strL ag l) (cutL (strN l) c) (lowL (strL ag l) (cutL (strN l) c) shy) :=
 splOk_made ag l c _ (lowL_len _ _ _) (lowL_bd _ _ _ _) fun i hi => by
  rw [lowL_get _ _ _ _ (by rw [lowL_len] at hi; exact hi)]
  exact (lowK_le _ _ _ i (str_tr ag l)).1
theorem splOk_zero (ag : Int) (l : List S6) (c : List Int) : SplOk (pick8 ag 6) (strL ag l) (cutL (strN l) c) (List.replicate (cutL (strN l) c).length 0) :=
 splOk_made ag l c _ (by simp) (fun v hv => by rw [List.eq_of_mem_replicate hv]; omega) fun i hi => by
  rw [List.length_replicate] at hi
  have e : (List.replicate (cutL ((strN l : Nat) : Int) c).length (0 : Int)).getD i 0 = 0 := by
   rw [List.getD_eq_getElem?_getD, List.getElem?_replicate, if_pos hi]
   rfl
  rw [e]
  exact (minT_bd _ fun e he => str_tr ag l e (List.mem_of_mem_drop he)).1
end Go.Proofs.YtnpfhcnjkekhbaaGreatDoor
