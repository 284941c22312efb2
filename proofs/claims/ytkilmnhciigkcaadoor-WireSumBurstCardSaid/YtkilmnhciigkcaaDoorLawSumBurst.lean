/-
  WireSumBurst returns true for all arguments: the walk.
-/
import Derived.Test.YtkilmnhciigkcaaDoorSane
import Derived.Test.YtkilmnhciigkcaaDoorCrc
import Derived.RegionTactic
import Derived.ChangeAlike
import Derived.BigQuiet
import Derived.Deep.QuietTactic
import Derived.Deep.RegionWith
import Derived.Lib.ConvBytes
namespace Go.Proofs.YtkilmnhciigkcaaDoor
open Go Go.Proofs Go.RowKit Go.Lib

/-- Block B holds the bytes y, and they may be written. -/
def ByteRow (W : World) (B : Nat) (y : List UInt8) : Prop :=
  ∀ j (h : j < y.length), W.cell? ⟨B, j, none⟩ = some (.int .u8 ((y[j].toNat : Nat) : Int)) ∧ W.frozen? ⟨B, j, none⟩ = false
theorem ByteRow.set {W : World} {B : Nat} {y : List UInt8} (h : ByteRow W B y) (i : Nat) (v : UInt8) : ByteRow (W.setCell ⟨B, i, none⟩ (.int .u8 ((v.toNat : Nat) : Int))) B (y.set i v) := by
  intro j hj
  have hj2 : j < y.length := by simpa using hj
  refine ⟨?_, by rw [World.frozen?_setCell]; exact (h j hj2).2⟩
  by_cases e : i = j
  · subst e
    rw [World.cell?_setCell_same _ _ _ (h i hj2).1]
    simp
  · rw [List.getElem_set_ne e]
    exact (World.cell?_setCell_other _ _ _ _ (fun e' => e (by injection e'))).trans (h j hj2).1
theorem ByteRow.drew {W : World} {B : Nat} {y : List UInt8} (h : ByteRow W B y) : ByteRow W.drew B y := h
theorem ByteRow.bytes {W : World} {B : Nat} {y : List UInt8} (h : ByteRow W B y) : Bytes W B 0 ⟨y.toArray⟩ := by
  intro i hi
  have hi2 : i < y.length := by
    have h9 : (⟨y.toArray⟩ : ByteArray).size = y.length := by show y.toArray.size = _; simp
    omega
  rw [Nat.zero_add, (h i hi2).1]
  rfl
theorem ByteRow.made (w : World) (e : TypeId) (s : ByteArray) : ByteRow (bytesWorld w e s) w.heap.size s.data.toList := by
  intro j hj
  have hj2 : j < s.size := by simpa using hj
  refine ⟨?_, ?_⟩
  · rw [bytesWorld_cell w e s j hj2]
    simp [List.getD, hj2]
  · have hsz : s.size ≤ (bytesCells w e s).size := by simp [bytesCells]
    have hne : ¬ (bytesCells w e s).size ≤ j := by omega
    simp [World.frozen?, bytesWorld_at_new, hne]

theorem sum_q (s : ByteArray) (hs : s.size ≤ 1000) (w : World) (n : Nat) (hT : HasTab w) :
    Calls Tryd.prog 21 #[.string s] (w.drewN n) fun e w' => e = .returned (.int .i64 ((4294967295 - crcF s.data.toList : Nat) : Int)) ∧ w' = w.drewN n :=
  (sum_any s (by unfold maxLen; omega) (w.drewN n) (fun i hi => by have := hT i hi; simpa using this)).mono fun _ _ ⟨h1, h2⟩ => ⟨h1, h2.symm⟩

theorem bytesWorld_below (w : World) (e : TypeId) (s : ByteArray) : Below w.heap.size w (bytesWorld w e s) :=
  ⟨rfl, rfl, rfl, by rw [bytesWorld_size]; omega, fun k hk => bytesWorld_at_old w e s k hk⟩

theorem xor8' {a b : Nat} (ha : a < 256) (hb : b < 256) : bits .xor .u8 (a : Int) (b : Int) = ((a ^^^ b : Nat) : Int) := by
  have ha' : a % 2 ^ 8 = a := Nat.mod_eq_of_lt ha
  have hb' : b % 2 ^ 8 = b := Nat.mod_eq_of_lt hb
  show IntKind.u8.wrap ((BitVec.ofInt 8 (a : Int) ^^^ BitVec.ofInt 8 (b : Int)).toNat : Int) = _
  simp only [BitVec.ofInt_natCast, BitVec.toNat_xor, BitVec.toNat_ofNat, ha', hb']
  have : a ^^^ b < 2 ^ 8 := Nat.xor_lt_two_pow ha hb
  exact wraps_u8 _ (Int.natCast_nonneg _) (by omega)
theorem flip8 (v o : Nat) (hv : v < 256) (ho : o < 8) : ∃ u : UInt8, u.toNat = v ^^^ 2 ^ o ∧ bits BinOp.xor IntKind.u8 (v : Int) (IntKind.u8.wrap (2 ^ o)) = ((u.toNat : Nat) : Int) ∧ bits BinOp.xor IntKind.u8 (v : Int) (2 ^ o % 256) = ((u.toNat : Nat) : Int) := by
  have hpow : 2 ^ o < 256 := Nat.lt_of_lt_of_le (Nat.pow_lt_pow_right (by decide) ho) (by decide)
  have hvo : v ^^^ 2 ^ o < 256 := Nat.xor_lt_two_pow (n := 8) hv hpow
  have hu : (UInt8.ofNat (v ^^^ 2 ^ o)).toNat = v ^^^ 2 ^ o := by rw [UInt8.toNat_ofNat']; exact Nat.mod_eq_of_lt hvo
  have main : bits BinOp.xor IntKind.u8 (v : Int) (IntKind.u8.wrap (2 ^ o)) = (((UInt8.ofNat (v ^^^ 2 ^ o)).toNat : Nat) : Int) := by
    rw [hu, show ((2 : Int) ^ o) = ((2 ^ o : Nat) : Int) by simp, wraps_u8 _ (Int.natCast_nonneg _) (by exact_mod_cast hpow), xor8' hv hpow]
  exact ⟨UInt8.ofNat (v ^^^ 2 ^ o), hu, main, by rw [← IntKind.wrap_u8]; exact main⟩
theorem bit_form (b k : Nat) : (((b : Int) / 2 ^ k).tmod 2 == 1) = decide (b / 2 ^ k % 2 = 1) := by
  have e : (b : Int) / 2 ^ k = ((b / 2 ^ k : Nat) : Int) := by simp
  rw [e, Int.tmod_eq_emod_of_nonneg (Int.natCast_nonneg _)]
  rw [Bool.eq_iff_iff, beq_iff_eq, decide_eq_true_iff]
  omega

set_option maxRecDepth 100000 in
set_option maxHeartbeats 4000000 in
theorem burst_walk (text : ByteArray) (a bt : Int) (ht : text.size ≤ maxLen) (a0 : -9223372036854775808 ≤ a) (a1 : a ≤ 9223372036854775807)
    (t0 : 0 ≤ bt) (t1 : bt ≤ 4294967295) (w : World) (hT : HasTab w) (h0 : 0 < w.heap.size) :
    Calls Tryd.prog 8 #[.string text, .int .i64 a, .int .u32 bt] w fun e w' => e = .returned (.bool true) ∧ Below w.heap.size w w' := by
  unfold maxLen at ht
  obtain ⟨m, hm⟩ : ∃ m, m = min text.size 300 := ⟨_, rfl⟩
  have hmn1 : min (text.size : Int) 300 = (m : Int) := by omega
  obtain ⟨s, hs⟩ : ∃ t, text.extract 0 m = t := ⟨_, rfl⟩
  have s2 : s.size = m := by rw [← hs]; simp; omega
  have m2 : m ≤ 300 := by omega
  have hsl1 := fun w' => slice_to (P := Tryd.prog) 9 Tryd.underlying9 text (m : Int) m rfl (by omega) s hs w'
  have hcv := fun w' => Lib.run_convert_string_bytes (P := Tryd.prog) w' 9 38 5 s Tryd.underlying9 Tryd.underlying38 Tryd.underlying5
  rw [s2] at hcv
  have S2 := Lib.hid s2
  have HSX := Lib.hid hs
  clear hm hs s2
  obtain ⟨b, rfl⟩ := Int.eq_ofNat_of_zero_le t0
  by_cases hm0 : m = 0
  · have e1 : ((m : Int) == 0) = true := by rw [beq_iff_eq]; omega
    have e2 : (m == 0) = true := by rw [beq_iff_eq]; omega
    have HM := Lib.hid hm0
    clear hm0
    go_enter Tryd.func8, Tryd.ntmps8
    go_wp2_with fail
    refine (sane_any _ hT h0).mono ?_
    rintro e w1 ⟨rfl, b1⟩
    go_wp2
    go_ret
    exact ⟨rfl, b1.trans ((bytesWorld_below w1 5 s).mono b1.size)⟩
  · have e1 : ((m : Int) == 0) = false := by rw [beq_eq_false_iff_ne]; omega
    have e2 : (m == 0) = false := by rw [beq_eq_false_iff_ne]; omega
    by_cases hb0 : b = 0
    · subst hb0
      go_enter Tryd.func8, Tryd.ntmps8
      go_wp2_with fail
      refine (sane_any _ hT h0).mono ?_
      rintro e w1 ⟨rfl, b1⟩
      go_wp2
      go_ret
      exact ⟨rfl, b1.trans ((bytesWorld_below w1 5 s).mono b1.size)⟩
    · have e3 : ((b : Int) == 0) = false := by rw [beq_eq_false_iff_ne]; omega
      have e4 : (b == 0) = false := by rw [beq_eq_false_iff_ne]; omega
      obtain ⟨f, hf⟩ : ∃ f : Nat, pickI a (8 * (m : Int)) = (f : Int) := Int.eq_ofNat_of_zero_le (pickI_lo (by omega))
      have hf2 : f < 8 * m := by have := pickI_hi (c := a) (n := 8 * (m : Int)) (by omega); omega
      have HF := Lib.hid hf
      clear hf
      go_enter Tryd.func8, Tryd.ntmps8
      go_wp2_with fail
      refine (sane_any _ hT h0).mono ?_
      rintro e w1 ⟨rfl, b1⟩
      go_wp2_with fail
      refine (pick_any a (8 * (m : Int)) a0 a1 (by omega) (by omega) _).mono ?_
      rw [HF.out]
      rintro e w2 ⟨rfl, rfl⟩
      obtain ⟨W2, hW2⟩ : ∃ W2, bytesWorld w1 5 s = W2 := ⟨_, rfl⟩
      obtain ⟨B, hB⟩ : ∃ B, w1.heap.size = B := ⟨_, rfl⟩
      obtain ⟨C, hC⟩ : ∃ C, grownCap w1 m 0 5 = C := ⟨_, rfl⟩
      rw [hW2, hB, hC]
      go_wp2_with fail
      have hbr2 : Below w.heap.size w W2 := hW2 ▸ b1.trans ((bytesWorld_below w1 5 s).mono b1.size)
      have hrow2 : ByteRow W2 B s.data.toList := by rw [← hW2, ← hB]; exact ByteRow.made w1 5 s
      have hBlt : w.heap.size ≤ B := hB ▸ b1.size
      have hmC : m ≤ C := by rw [← hC]; exact grownCap_ge w1 m 0 5
      clear hW2 hB hC
      have hsL : s.data.toList.length = m := by rw [size_len]; exact S2.out
      have HSL := Lib.hid hsL
      have HBR2 := Lib.hid hbr2
      have HROW2 := Lib.hid hrow2
      clear hsL hbr2 hrow2
      go_loopw [10, 11] (fun ch i wr => ∃ (k : Nat) (g : Bool) (y : List UInt8), k ≤ 32 ∧ f + k ≤ 8 * m ∧ i = .int .i64 k ∧ ch = .bool g ∧ (g = true ↔ 0 < b % 2 ^ k) ∧ y.length = m ∧ leNum y = leNum s.data.toList ^^^ (b % 2 ^ k) * 2 ^ f ∧ ByteRow wr B y ∧ Below w.heap.size w wr) (fun _ i _ => 32 - (RowKit.intOf i).toNat)
      case atStart => exact ⟨0, false, s.data.toList, by omega, by omega, rfl, rfl, by simp [Nat.mod_one], HSL.out, by simp [Nat.mod_one], HROW2.out, HBR2.out⟩
      case round =>
        obtain ⟨k, g, y, hk32, hfk, rfl, rfl, hg, hyl, hle, hrow, hbr⟩ := hrel
        have HG := Lib.hid hg; have HYL := Lib.hid hyl; have HLE := Lib.hid hle; have HROW := Lib.hid hrow; have HBR := Lib.hid hbr
        clear hg hyl hle hrow hbr
        by_cases hgo : k < 32 ∧ f + k < 8 * m
        · obtain ⟨hk, hfk2⟩ := hgo
          have hk2 : (k : Int) < 32 := by omega
          have hfk3 : (f : Int) + (k : Int) < 8 * (m : Int) := by omega
          by_cases hbit : b / 2 ^ k % 2 = 1
          · have hbb : (((b : Int) / 2 ^ k).tmod 2 == 1) = true := by rw [bit_form]; exact decide_eq_true hbit
            obtain ⟨q, hq⟩ : ∃ q, (f + k) / 8 = q := ⟨_, rfl⟩
            obtain ⟨o, ho⟩ : ∃ o, (f + k) % 8 = o := ⟨_, rfl⟩
            have hq2 : q < m := by omega
            have ho2 : o < 8 := by omega
            have i1 : (q : Int) < (m : Int) := by omega
            have hQ : IntKind.i64.wrap (((f : Int) + (k : Int)).tdiv 8) = (q : Int) := by
              rw [Int.tdiv_eq_ediv_of_nonneg (by omega), IntKind.wrap_i64]; omega
            have hO : ((f : Int) + (k : Int)).tmod 8 = (o : Int) := by
              rw [Int.tmod_eq_emod_of_nonneg (by omega)]; omega
            have hyq : q < y.length := by rw [HYL.out]; exact hq2
            obtain ⟨hcell, hfro⟩ := HROW.out q hyq
            obtain ⟨v, hv⟩ : ∃ v, y[q].toNat = v := ⟨_, rfl⟩
            rw [hv] at hcell
            have hvl : v < 256 := hv ▸ UInt8.toNat_lt _
            have HV := Lib.hid hv; have HQ := Lib.hid hq; have HO := Lib.hid ho
            clear hv hq ho
            have HBIT := Lib.hid hbit
            clear hbit
            go_wp2_with fail
            obtain ⟨u, hu, hE, hE2⟩ := flip8 v o hvl ho2
            have HU := Lib.hid hu
            clear hu
            have HE := Lib.hid hE; have HE2 := Lib.hid hE2
            clear hE hE2
            go_region
            first | rw [HE.out] | rw [HE2.out]
            obtain ⟨W4, hW4⟩ : ∃ W4, (wr.setCell ⟨B, q, none⟩ (.int .u8 ((u.toNat : Nat) : Int))).drew = W4 := ⟨_, rfl⟩
            have hb4 : Below w.heap.size w W4 := by
              rw [← hW4]
              exact (HBR.out.setCell (p := ⟨B, q, none⟩) hBlt _).trans ⟨rfl, rfl, rfl, Nat.le_refl _, fun _ _ => rfl⟩
            have hr4 : ByteRow W4 B (y.set q u) := by rw [← hW4]; exact (HROW.out.set q u).drew
            rw [hW4]
            clear hW4
            have hle4 : leNum (y.set q u) = leNum s.data.toList ^^^ (b % 2 ^ (k + 1)) * 2 ^ f := by
              rw [leNum_set y q hyq u o ho2 (by rw [HU.out, HV.out]), HLE.out, mod_set HBIT.out, shift_xor, Nat.xor_assoc]
              have h8 : 8 * q + o = f + k := by rw [← HQ.out, ← HO.out]; omega
              rw [h8]
            have HR4 := Lib.hid hr4; have HL4 := Lib.hid hle4; have HB4 := Lib.hid hb4
            clear hr4 hle4 hb4 hQ hO hcell hfro
            go_wp2
            go_roundw
            case rel => exact ⟨k + 1, true, y.set q u, by omega, by omega, by go_num, rfl, by simp [mod_set_pos HBIT.out], by rw [List.length_set]; exact HYL.out, HL4.out, HR4.out, HB4.out⟩
            case measure => simp [RowKit.intOf]; omega
          · have hbb : (((b : Int) / 2 ^ k).tmod 2 == 1) = false := by rw [bit_form]; exact decide_eq_false hbit
            have HBIT := Lib.hid hbit
            clear hbit
            go_wp2
            go_roundw
            case rel => exact ⟨k + 1, g, y, by omega, by omega, by go_num, rfl, by rw [mod_clear HBIT.out]; exact HG.out, HYL.out, by rw [mod_clear HBIT.out]; exact HLE.out, HROW.out, HBR.out⟩
            case measure => simp [RowKit.intOf]; omega
        · obtain ⟨p, hp⟩ : ∃ p, b % 2 ^ k = p := ⟨_, rfl⟩
          have hp32 : p < 4294967296 := by rw [← hp]; exact Nat.lt_of_le_of_lt (Nat.mod_le _ _) (by omega)
          have hTr : HasTab wr := hT.below HBR.out h0
          obtain ⟨Y, hY⟩ : ∃ Y : ByteArray, (⟨y.toArray⟩ : ByteArray) = Y := ⟨_, rfl⟩
          have hYd : Y.data.toList = y := by rw [← hY]
          have hYs : Y.size = m := by rw [← size_len, hYd]; exact HYL.out
          have hconv : ∀ q, (convert 38 9 (.slice (some ⟨B, 0, none⟩) m C)).run Tryd.prog (wr.drewN q) = .ok (.string Y) (wr.drewN q) := by
            intro q
            have hby := HROW.out.bytes
            rw [hY] at hby
            have := run_convert_whole (P := Tryd.prog) (wr.drewN q) 38 5 9 Tryd.underlying38 Tryd.underlying5 Tryd.underlying9 B 0 Y (hby.drewN q) C
            rwa [hYs] at this
          have hle : leNum y = leNum s.data.toList ^^^ p * 2 ^ f := by rw [← hp]; exact HLE.out
          have hlen : y.length = s.data.toList.length := by rw [HSL.out]; exact HYL.out
          have l1 := crcF_lt y
          have l2 := crcF_lt s.data.toList
          have cY := fun q => sum_q Y (by omega) wr q hTr
          have cS := fun q => sum_q s (by have := S2.out; omega) wr q hTr
          rw [hYd] at cY
          have hdec : (g = true ↔ ¬ (4294967295 - crcF y = 4294967295 - crcF s.data.toList)) := by
            rw [HG.out, hp]
            by_cases hp0 : 0 < p
            · have := crcF_burst hlen (p := p) (f := f) (by rw [HSL.out]; omega) hp0 hp32 hle
              constructor
              · intro _ e; omega
              · intro _; exact hp0
            · have hp1 : p = 0 := by omega
              subst hp1
              have e : crcF y = crcF s.data.toList := by
                rw [crcF_eq, crcF_eq, hlen, hle]; simp
              constructor
              · intro h; omega
              · intro h; exact absurd (by rw [e]) h
          obtain ⟨u1, hu1⟩ : ∃ u, 4294967295 - crcF y = u := ⟨_, rfl⟩
          obtain ⟨u2, hu2⟩ : ∃ u, 4294967295 - crcF s.data.toList = u := ⟨_, rfl⟩
          rw [hu1] at cY hdec
          rw [hu2] at cS hdec
          have CY := Lib.hid cY; have CS := Lib.hid cS
          have hsl2 := fun w' => slice_to (P := Tryd.prog) 9 Tryd.underlying9 text (m : Int) m rfl (by omega) s HSX.out w'
          have hnk : ¬ ((k : Int) < 32 ∧ (f : Int) + (k : Int) < 8 * (m : Int)) := by omega
          clear cY cS hu1 hu2 hle hlen l1 l2 hY hYd hYs hp hp32 hTr
          have hneq : ((u1 : Int) != (u2 : Int)) = g := by
            cases g with
            | true => rw [bne_iff_ne]; intro e; exact (hdec.1 rfl) (by omega)
            | false =>
              rw [Bool.eq_false_iff, Ne, bne_iff_ne]
              intro h
              have : false = true := hdec.2 (fun e => h (by rw [e]))
              cases this
          clear hdec
          by_cases hk : k < 32
          · have hfk3 : ¬ (f : Int) + (k : Int) < 8 * (m : Int) := by omega
            have hk2 : (k : Int) < 32 := by omega
            clear hnk hgo
            go_wp2_with fail
            go_quiet (first | (go_at_call_of 21 (Value.string Y); exact Calls.quiet_of_same (CY.out _)) | (go_at_call_of 21 (Value.string s); exact Calls.quiet_of_same (CS.out _)))
            go_wp2
            go_ret
            exact ⟨rfl, HBR.out.trans ⟨rfl, rfl, rfl, Nat.le_refl _, fun _ _ => rfl⟩⟩
          · have hk2 : ¬ (k : Int) < 32 := by omega
            clear hnk hgo
            go_wp2_with fail
            go_quiet (first | (go_at_call_of 21 (Value.string Y); exact Calls.quiet_of_same (CY.out _)) | (go_at_call_of 21 (Value.string s); exact Calls.quiet_of_same (CS.out _)))
            go_wp2
            go_ret
            exact ⟨rfl, HBR.out.trans ⟨rfl, rfl, rfl, Nat.le_refl _, fun _ _ => rfl⟩⟩
end Go.Proofs.YtkilmnhciigkcaaDoor
