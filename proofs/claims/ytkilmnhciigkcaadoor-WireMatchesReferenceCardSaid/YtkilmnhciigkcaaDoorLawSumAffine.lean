/-
  WireSumAffine returns true for all arguments: the walk.
-/
import Derived.Test.YtkilmnhciigkcaaDoorSane
import Derived.Test.YtkilmnhciigkcaaDoorCrc
import Derived.RegionTactic
import Derived.ChangeAlike
import Derived.BigQuiet
import Derived.Deep.QuietTactic
import Derived.Deep.OwnRows
import Derived.Deep.RegionWith
namespace Go.Proofs.YtkilmnhciigkcaaDoor
open Go Go.Proofs Go.RowKit Go.Lib Go.Deep

theorem min4 {P : Program} (w : World) (ts : Array TypeId) (t : TypeId) (x y z v : Int) (m : Int) (hm : m = min (min (min x y) z) v) :
    (Builtin.min_ ts t #[.int .i64 x, .int .i64 y, .int .i64 z, .int .i64 v]).run P w = .ok (.int .i64 m) w := by
  subst hm
  simp [Builtin.min_, Builtin.min2]
  omega

theorem xor8 {a b : Nat} (ha : a < 256) (hb : b < 256) : bits .xor .u8 (a : Int) (b : Int) = ((a ^^^ b : Nat) : Int) := by
  have ha' : a % 2 ^ 8 = a := Nat.mod_eq_of_lt ha
  have hb' : b % 2 ^ 8 = b := Nat.mod_eq_of_lt hb
  show IntKind.u8.wrap ((BitVec.ofInt 8 (a : Int) ^^^ BitVec.ofInt 8 (b : Int)).toNat : Int) = _
  simp only [BitVec.ofInt_natCast, BitVec.toNat_xor, BitVec.toNat_ofNat, ha', hb']
  have : a ^^^ b < 2 ^ 8 := Nat.xor_lt_two_pow ha hb
  exact wraps_u8 _ (Int.natCast_nonneg _) (by omega)
theorem xor64 {a b : Nat} (ha : a < 4294967296) (hb : b < 4294967296) : bits .xor .i64 (a : Int) (b : Int) = ((a ^^^ b : Nat) : Int) := by
  have ha' : a % 2 ^ 64 = a := Nat.mod_eq_of_lt (by omega)
  have hb' : b % 2 ^ 64 = b := Nat.mod_eq_of_lt (by omega)
  show IntKind.i64.wrap ((BitVec.ofInt 64 (a : Int) ^^^ BitVec.ofInt 64 (b : Int)).toNat : Int) = _
  simp only [BitVec.ofInt_natCast, BitVec.toNat_xor, BitVec.toNat_ofNat, ha', hb']
  have := xor_lt32 ha hb
  rw [IntKind.wrap_i64]; omega

theorem make_bytes (n : Nat) (hn : n ≤ 100000) (W : World) :
    (Instr.makeSlice 38 (.int .i64 (n : Int)) (.int .i64 (n : Int))).run Tryd.prog W = .ok (.slice (some ⟨W.heap.size, 0, none⟩) n n) (W.alloc (.cells (madeCells #[.int .u8 0] n) 5)) := by
  obtain ⟨i0, hi, hz0, hz1, hz2⟩ := info_parts (show (Tryd.prog.info? 5).map (fun i => (i.zero, i.size, i.bytes)) = some (some (.int .u8 0), 1, 1) by kernel_rfl)
  have h := run_make (P := Tryd.prog) W 38 5 i0 (.int .u8 0) Tryd.underlying38 hi hz0 .i64 .i64 (n : Int) (n : Int) (by omega) (by omega) (by rw [hz2]; omega) (by omega)
  rw [hz1] at h
  simpa [Value.cells] using h

/-- Byte i of the XOR of three strings. -/
def xor3 (a b c : ByteArray) (i : Nat) : Nat := ((a.data.toList[i]?.getD 0).toNat ^^^ (b.data.toList[i]?.getD 0).toNat) ^^^ (c.data.toList[i]?.getD 0).toNat
theorem xor3_lt (a b c : ByteArray) (i : Nat) : xor3 a b c i < 256 :=
  Nat.xor_lt_two_pow (n := 8) (Nat.xor_lt_two_pow (n := 8) (UInt8.toNat_lt _) (UInt8.toNat_lt _)) (UInt8.toNat_lt _)
theorem byte_get (a : ByteArray) (i : Nat) (h : i < a.size) : a.data.toList[i]?.getD 0 = a[i] := by
  rw [List.getElem?_eq_getElem (by simpa using h)]; rfl
/-- The XOR of three strings, cut to n bytes. -/
def xor3S (a b c : ByteArray) (n : Nat) : ByteArray := ⟨((List.range n).map fun i => UInt8.ofNat (xor3 a b c i)).toArray⟩
theorem xor3S_size (a b c : ByteArray) (n : Nat) : (xor3S a b c n).size = n := by
  show (((List.range n).map fun i => UInt8.ofNat (xor3 a b c i)).toArray).size = n
  simp
theorem xor3S_get (a b c : ByteArray) (n i : Nat) (h : i < (xor3S a b c n).size) : (xor3S a b c n)[i].toNat = xor3 a b c i := by
  have h9 := xor3_lt a b c i
  have hi : i < n := by rw [xor3S_size] at h; exact h
  have e : (xor3S a b c n)[i] = ((List.range n).map fun i => UInt8.ofNat (xor3 a b c i))[i]'(by simpa using hi) := rfl
  rw [e, List.getElem_map, List.getElem_range]
  simp
  omega

theorem sub_xor (u : Nat) (h : u < 4294967296) : 4294967295 - u = 4294967295 ^^^ u := (xor_ones32 u h).symm
theorem sub_xor3 {a b c : Nat} (ha : a < 4294967296) (hb : b < 4294967296) (hc : c < 4294967296) : 4294967295 - ((a ^^^ b) ^^^ c) = ((4294967295 - a) ^^^ (4294967295 - b)) ^^^ (4294967295 - c) := by
  rw [sub_xor _ (xor_lt32 (xor_lt32 ha hb) hc), sub_xor _ ha, sub_xor _ hb, sub_xor _ hc]
  apply Nat.eq_of_testBit_eq
  intro i
  simp only [Nat.testBit_xor]
  cases Nat.testBit 4294967295 i <;> cases a.testBit i <;> cases b.testBit i <;> cases c.testBit i <;> rfl

theorem sum_q (s : ByteArray) (hs : s.size ≤ 1000) (w : World) (n : Nat) (hT : HasTab w) :
    Calls Tryd.prog 21 #[.string s] (w.drewN n) fun e w' => e = .returned (.int .i64 ((4294967295 - crcF s.data.toList : Nat) : Int)) ∧ w' = w.drewN n :=
  (sum_any s (by unfold maxLen; omega) (w.drewN n) (fun i hi => by have := hT i hi; simpa using this)).mono fun _ _ ⟨h1, h2⟩ => ⟨h1, h2.symm⟩

set_option maxRecDepth 100000 in
set_option maxHeartbeats 4000000 in
theorem affine_walk (a b c : ByteArray) (ha : a.size ≤ maxLen) (hb : b.size ≤ maxLen) (hc : c.size ≤ maxLen) (w : World) (hT : HasTab w) (h0 : 0 < w.heap.size) :
    Calls Tryd.prog 9 #[.string a, .string b, .string c] w fun e w' => e = .returned (.bool true) ∧ Below w.heap.size w w' := by
  unfold maxLen at ha hb hc
  obtain ⟨n, hn⟩ : ∃ n, n = min (min (min a.size b.size) c.size) 200 := ⟨_, rfl⟩
  have na : n ≤ a.size := by omega
  have nb : n ≤ b.size := by omega
  have nc : n ≤ c.size := by omega
  have n2 : n ≤ 200 := by omega
  have hmin := fun w' => min4 (P := Tryd.prog) w' #[3, 3, 3, 3] 3 (a.size : Int) (b.size : Int) (c.size : Int) 200 (n : Int) (by omega)
  have hmk := make_bytes n (by omega)
  clear hn
  go_enter Tryd.func9, Tryd.ntmps9
  go_wp2_with fail
  refine (sane_any _ hT h0).mono ?_
  rintro e w1 ⟨rfl, b1⟩
  have hrow := World.rowIs_made w1 (.int .u8 0) n 5
  have hbW : Below w.heap.size w (w1.alloc (.cells (madeCells #[.int .u8 0] n) 5)) := b1.trans ((Below.refl _ _).alloc b1.size _)
  obtain ⟨W1, hW1⟩ : ∃ W1, w1.alloc (.cells (madeCells #[.int .u8 0] n) 5) = W1 := ⟨_, rfl⟩
  obtain ⟨B, hB⟩ : ∃ B, w1.heap.size = B := ⟨_, rfl⟩
  have hlt : w.heap.size ≤ B := hB ▸ b1.size
  rw [hW1] at hrow hbW
  rw [hB] at hrow
  have HW1 := Lib.hid hW1
  have HB := Lib.hid hB
  have HR := Lib.hid hrow
  clear hW1 hB hrow
  go_wp2_with fail
  rw [HW1.out, HB.out]
  go_loopw [10] (fun i wr => ∃ k : Nat, k ≤ n ∧ i = .int .i64 k ∧ wr.rowIs B 5 n (fun j => .int .u8 ((if j < k then xor3 a b c j else 0 : Nat) : Int)) ∧ Below w.heap.size w wr) (fun i _ => n - (RowKit.intOf i).toNat)
  case atStart => exact ⟨0, Nat.zero_le _, rfl, HR.out.congr (fun i _ => by simp), hbW⟩
  case round =>
    obtain ⟨k, hk, rfl, hrow, hbr⟩ := hrel
    by_cases hk2 : k < n
    · have hcell := hrow.cell hk2
      have hfro := hrow.frozen k
      rw [if_neg (Nat.lt_irrefl k)] at hcell
      have HROW := Lib.hid hrow
      have HBR := Lib.hid hbr
      clear hrow hbr
      have i1 : (k : Int) < (a.size : Int) := by omega
      have i2 : (k : Int) < (b.size : Int) := by omega
      have i3 : (k : Int) < (c.size : Int) := by omega
      have i4 : (k : Int) < (n : Int) := by omega
      have ka : k < a.size := by omega
      have kb : k < b.size := by omega
      have kc : k < c.size := by omega
      have l1 : a[k].toNat < 256 := UInt8.toNat_lt _
      have l2 : b[k].toNat < 256 := UInt8.toNat_lt _
      have l3 : c[k].toNat < 256 := UInt8.toNat_lt _
      obtain ⟨q1, hq1⟩ : ∃ q, a[k].toNat ^^^ b[k].toNat = q := ⟨_, rfl⟩
      have q1l : q1 < 256 := hq1 ▸ Nat.xor_lt_two_pow (n := 8) l1 l2
      have hE1 : bits BinOp.xor IntKind.u8 (a[k].toNat : Int) (b[k].toNat : Int) = (q1 : Int) := by rw [xor8 l1 l2, hq1]
      obtain ⟨q2, hq2⟩ : ∃ q, q1 ^^^ c[k].toNat = q := ⟨_, rfl⟩
      have hE2 : bits BinOp.xor IntKind.u8 (q1 : Int) (c[k].toNat : Int) = (q2 : Int) := by rw [xor8 q1l l3, hq2]
      have hx : xor3 a b c k = q2 := by unfold xor3; rw [byte_get a k ka, byte_get b k kb, byte_get c k kc, hq1, hq2]
      have HX := Lib.hid hx
      clear hx hq1 hq2
      go_wp2_with fail
      go_region
      obtain ⟨W4, hW4⟩ : ∃ W4, (wr.setCell ⟨B, k, none⟩ (.int .u8 (q2 : Int))).drew = W4 := ⟨_, rfl⟩
      have hb4 : Below w.heap.size w W4 := by
        rw [← hW4]
        exact (HBR.out.setCell (p := ⟨B, k, none⟩) hlt _).trans ⟨rfl, rfl, rfl, Nat.le_refl _, fun _ _ => rfl⟩
      have hr4 : W4.rowIs B 5 n (fun j => .int .u8 ((if j < k + 1 then xor3 a b c j else 0 : Nat) : Int)) := by
        rw [← hW4]
        refine ((HROW.out.set k _).drew).congr (fun j hj => ?_)
        by_cases e : j = k
        · subst e; rw [if_pos rfl, if_pos (by omega), HX.out]
        · rw [if_neg e]
          by_cases e2 : j < k
          · rw [if_pos e2, if_pos (by omega)]
          · rw [if_neg e2, if_neg (by omega)]
      rw [hW4]
      clear hW4
      have HR4 := Lib.hid hr4
      clear hr4
      go_wp2
      go_roundw
      case rel => exact ⟨k + 1, by omega, by go_num, HR4.out, hb4⟩
      case measure => simp [RowKit.intOf]; omega
    · have hkn : k = n := by omega
      have hTr : HasTab wr := hT.below hbr h0
      obtain ⟨X, hX⟩ : ∃ X, xor3S a b c n = X := ⟨_, rfl⟩
      have hXs : X.size = n := by rw [← hX]; exact xor3S_size a b c n
      have hby : Bytes wr B 0 X := by
        subst hX
        intro i hi
        have hi2 : i < n := by rw [xor3S_size] at hi; exact hi
        rw [xor3S_get a b c n i hi, Nat.zero_add, hrow.cell hi2, if_pos (by omega)]
      have hconv := run_convert_whole (P := Tryd.prog) wr 38 5 9 Tryd.underlying38 Tryd.underlying5 Tryd.underlying9 B 0 X hby n
      rw [hXs] at hconv
      have hconv2 : ∀ q, (convert 38 9 (.slice (some ⟨B, 0, none⟩) n n)).run Tryd.prog (wr.drewN q) = .ok (.string X) (wr.drewN q) := by
        intro q
        have := run_convert_whole (P := Tryd.prog) (wr.drewN q) 38 5 9 Tryd.underlying38 Tryd.underlying5 Tryd.underlying9 B 0 X (hby.drewN q) n
        rwa [hXs] at this
      obtain ⟨A1, hA1⟩ : ∃ r, a.extract 0 n = r := ⟨_, rfl⟩
      obtain ⟨B1, hB1⟩ : ∃ r, b.extract 0 n = r := ⟨_, rfl⟩
      obtain ⟨C1, hC1⟩ : ∃ r, c.extract 0 n = r := ⟨_, rfl⟩
      have sA : A1.size = n := by rw [← hA1]; simp; omega
      have sB : B1.size = n := by rw [← hB1]; simp; omega
      have sC : C1.size = n := by rw [← hC1]; simp; omega
      have hsA := fun w' => slice_to (P := Tryd.prog) 9 Tryd.underlying9 a (n : Int) n rfl na A1 hA1 w'
      have hsB := fun w' => slice_to (P := Tryd.prog) 9 Tryd.underlying9 b (n : Int) n rfl nb B1 hB1 w'
      have hsC := fun w' => slice_to (P := Tryd.prog) 9 Tryd.underlying9 c (n : Int) n rfl nc C1 hC1 w'
      have hle : leNum X.data.toList = (leNum A1.data.toList ^^^ leNum B1.data.toList) ^^^ leNum C1.data.toList := by
        refine leNum_xor3 _ _ _ _ (by rw [size_len, size_len, sA, hXs]) (by rw [size_len, size_len, sB, hXs]) (by rw [size_len, size_len, sC, hXs]) (fun i h h1 h2 h3 => ?_)
        have hin : i < n := by rw [size_len, hXs] at h; exact h
        have e0 : X.data.toList[i].toNat = xor3 a b c i := by
          subst hX
          exact xor3S_get a b c n i (by rw [xor3S_size]; exact hin)
        have eA : A1.data.toList[i] = a.data.toList[i]?.getD 0 := by
          subst hA1
          simp only [extract_take, List.getElem_take]
          rw [List.getElem?_eq_getElem (by rw [size_len]; omega)]; rfl
        have eB : B1.data.toList[i] = b.data.toList[i]?.getD 0 := by
          subst hB1
          simp only [extract_take, List.getElem_take]
          rw [List.getElem?_eq_getElem (by rw [size_len]; omega)]; rfl
        have eC : C1.data.toList[i] = c.data.toList[i]?.getD 0 := by
          subst hC1
          simp only [extract_take, List.getElem_take]
          rw [List.getElem?_eq_getElem (by rw [size_len]; omega)]; rfl
        rw [e0, eA, eB, eC]; rfl
      have hx3 := crcF_xor3 (x := X.data.toList) (a := A1.data.toList) (b := B1.data.toList) (c := C1.data.toList) (by rw [size_len, size_len, sA, hXs]) (by rw [size_len, size_len, sB, hXs]) (by rw [size_len, size_len, sC, hXs]) hle
      have kA := crcF_lt A1.data.toList
      have kB := crcF_lt B1.data.toList
      have kC := crcF_lt C1.data.toList
      have cX := fun q => sum_q X (by omega) wr q hTr
      have cA := fun q => sum_q A1 (by omega) wr q hTr
      have cB := fun q => sum_q B1 (by omega) wr q hTr
      have cC := fun q => sum_q C1 (by omega) wr q hTr
      rw [hx3] at cX
      obtain ⟨u1, hu1⟩ : ∃ u, crcF A1.data.toList = u := ⟨_, rfl⟩
      obtain ⟨u2, hu2⟩ : ∃ u, crcF B1.data.toList = u := ⟨_, rfl⟩
      obtain ⟨u3, hu3⟩ : ∃ u, crcF C1.data.toList = u := ⟨_, rfl⟩
      rw [hu1] at cA cX kA
      rw [hu2] at cB cX kB
      rw [hu3] at cC cX kC
      clear hu1 hu2 hu3 hx3 hle hX hXs hby hA1 hB1 hC1 sA sB sC
      obtain ⟨y1, hy1⟩ : ∃ y, 4294967295 - u1 = y := ⟨_, rfl⟩
      obtain ⟨y2, hy2⟩ : ∃ y, 4294967295 - u2 = y := ⟨_, rfl⟩
      obtain ⟨y3, hy3⟩ : ∃ y, 4294967295 - u3 = y := ⟨_, rfl⟩
      have z1 : y1 < 4294967296 := by omega
      have z2 : y2 < 4294967296 := by omega
      have z3 : y3 < 4294967296 := by omega
      obtain ⟨y4, hy4⟩ : ∃ y, y1 ^^^ y2 = y := ⟨_, rfl⟩
      have z4 : y4 < 4294967296 := hy4 ▸ xor_lt32 z1 z2
      have hE1 : bits BinOp.xor IntKind.i64 (y1 : Int) (y2 : Int) = (y4 : Int) := by rw [xor64 z1 z2, hy4]
      obtain ⟨y5, hy5⟩ : ∃ y, y4 ^^^ y3 = y := ⟨_, rfl⟩
      have hE2 : bits BinOp.xor IntKind.i64 (y4 : Int) (y3 : Int) = (y5 : Int) := by rw [xor64 z4 z3, hy5]
      have h5 : 4294967295 - ((u1 ^^^ u2) ^^^ u3) = y5 := by
        rw [← hy5, ← hy4, ← hy1, ← hy2, ← hy3]
        exact sub_xor3 kA kB kC
      rw [h5] at cX
      rw [hy1] at cA
      rw [hy2] at cB
      rw [hy3] at cC
      have CX := Lib.hid cX; have CA := Lib.hid cA; have CB := Lib.hid cB; have CC := Lib.hid cC
      clear cX cA cB cC
      clear hy1 hy2 hy3 hy4 hy5 h5 hkn hrow
      go_wp2_with fail
      go_quiet (first | (go_at_call_of 21 (Value.string X); exact Calls.quiet_of_same (CX.out _)) | (go_at_call_of 21 (Value.string A1); exact Calls.quiet_of_same (CA.out _)) | (go_at_call_of 21 (Value.string B1); exact Calls.quiet_of_same (CB.out _)) | (go_at_call_of 21 (Value.string C1); exact Calls.quiet_of_same (CC.out _)))
      go_wp2
      go_ret
      exact ⟨rfl, hbr.trans ⟨rfl, rfl, rfl, Nat.le_refl _, fun _ _ => rfl⟩⟩
end Go.Proofs.YtkilmnhciigkcaaDoor
