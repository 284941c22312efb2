/-
  The contracts of the reference implementation's zigzag, PutInt and Sum. The contracts of the reference implementation's Int, PutString and String.
-/
import Derived.Test.YtcglcgphgahnpaaGreatDoorJ17
import Derived.Test.YtcglcgphgahnpaaGreatDoorJ28
import Derived.Test.YtcglcgphgahnpaaGreatDoorJ29
import Derived.Maps.AppendAt
import Derived.RangeFuncBox
import Derived.OwnWalk
set_option maxRecDepth 100000
set_option maxHeartbeats 16000000
namespace Go.Proofs.YtcglcgphgahnpaaGreatDoor.W1
open Go Go.Proofs Go.RowKit Go.Lib
theorem ret_r {k : IntKind} {a b : Int} (h : a = b) : Ending.returned (.int k a) = .returned (.int k b) := by rw [h]
theorem refZig_any (x : Int) (h0 : -4611686018427387903 ≤ x) (h1 : x ≤ 4611686018427387903) (w : World) :
 Calls Tryz.prog 101 #[.int .i64 x] w fun e w' => e = .returned (.int .u64 ((zigzag x : Nat) : Int)) ∧ w = w' := by
 by_cases hn : x < 0
 · have hz : ((zigzag x : Nat) : Int) = -x * 2 - 1 := by unfold zigzag; rw [if_neg (by omega)]; omega
   have HZ := hid hz
   clear hz
   go_enter Tryz.func101, Tryz.ntmps101
   go_wp2
   go_ret
   exact ⟨ret_r HZ.out.symm, rfl⟩
 have hz : ((zigzag x : Nat) : Int) = x * 2 := by unfold zigzag; rw [if_pos (by omega)]; omega
 have HZ := hid hz
 clear hz
 have hn' : 0 ≤ x := by omega
 go_enter Tryz.func101, Tryz.ntmps101
 go_wp2
 go_ret
 exact ⟨ret_r HZ.out.symm, rfl⟩
def byteVals (l : List UInt8) : List Value := l.map fun b => Value.int .u8 ((b.toNat : Nat) : Int)
theorem byteVals_snoc (l : List UInt8) (b : UInt8) (v : Int) (h : v = ((b.toNat : Nat) : Int)) : byteVals l ++ [Value.int .u8 v] = byteVals (l ++ [b]) := by
 subst h; simp [byteVals]
theorem own_bytes {w : World} {base : Nat} {e : TypeId} {g n cap : Nat} {l : List UInt8} (h : w.ownsRow base e 1 (.slice (some ⟨g, 0, none⟩) n cap) n (byteVals l)) : Bytes w g 0 ⟨l.toArray⟩ := by
 obtain ⟨hl, h | ⟨g', cap', cur, hv, _, hb, _, _, _, ht⟩⟩ := h
 · exact absurd h.1 (by simp)
 simp only [Value.slice.injEq, Option.some.injEq, Addr.mk.injEq, and_true, true_and] at hv
 obtain ⟨rfl, rfl⟩ := hv
 intro i hi
 have hi2 : i < l.length := by
  have h9 : (⟨l.toArray⟩ : ByteArray).size = l.length := by show l.toArray.size = _; simp
  omega
 have hln : l.length = n := by simpa [byteVals] using hl
 have e1 : (cur.toList.take (n * 1))[i]? = some (.int .u8 ((l[i].toNat : Nat) : Int)) := by
  rw [ht]; simp [byteVals, hi2]
 rw [List.getElem?_take_of_lt (by omega)] at e1
 have e2 : cur[i]? = some (.int .u8 ((l[i].toNat : Nat) : Int)) := by simpa using e1
 rw [Nat.zero_add]
 simp only [World.cell?, hb]
 exact e2
theorem own_block_ge {w : World} {base : Nat} {e : TypeId} {size : Nat} {v : Value} {n : Nat} {xs : List Value} (h : w.ownsRow base e size v n xs) : ∀ k, v.ownBlock = some k → base ≤ k := by
 intro k hk
 obtain ⟨_, ⟨rfl, _⟩ | ⟨g, cap, cur, rfl, hb, _⟩⟩ := h
 · simp [Value.ownBlock] at hk
 simp [Value.ownBlock] at hk; omega
theorem toU8 (n : Nat) (h : n < 256) : ((n.toUInt8.toNat : Nat) : Int) = (n : Int) := by
 have : n.toUInt8.toNat = n := by
  show (UInt8.ofNat n).toNat = n
  rw [UInt8.toNat_ofNat']; exact Nat.mod_eq_of_lt h
 rw [this]
theorem refPut_no (x : Int) (h : x < -4611686018427387903 ∨ 4611686018427387903 < x) (w : World) :
 Calls Tryz.prog 64 #[.int .i64 x] w fun e w' => e = .returned (.tuple #[.string ByteArray.empty, .int .i64 10]) ∧ Below w.heap.size w w' := by
 rcases h with h | h
 · go_enter Tryz.func64, Tryz.ntmps64
   go_wp2
   go_ret2
   exact ⟨rfl, Below.refl _ _⟩
 have h' : ¬ x < -4611686018427387903 := by omega
 go_enter Tryz.func64, Tryz.ntmps64
 go_wp2
 go_ret2
 exact ⟨rfl, Below.refl _ _⟩
theorem refPut_yes (x : Int) (h0 : -4611686018427387903 ≤ x) (h1 : x ≤ 4611686018427387903) (w : World) :
 Calls Tryz.prog 64 #[.int .i64 x] w fun e w' => e = .returned (.tuple #[.string (encS x), .int .i64 0]) ∧ Below w.heap.size w w' := by
 obtain ⟨i0, hi, hz0, hz1, hz2⟩ := info_parts (show (Tryz.prog.info? 5).map (fun i => (i.zero, i.size, i.bytes)) = some (some (.int .u8 0), 1, 1) by kernel_rfl)
 have hz64 : zigzag x ≤ 9223372036854775806 := zigzag_le h0 h1
 have hlen := uvarint_length9 (zigzag_le h0 h1)
 have henc : encS x = ⟨(uvarint (zigzag x)).toArray⟩ := rfl
 obtain ⟨z, hz⟩ : ∃ z, zigzag x = z := ⟨_, rfl⟩
 rw [hz] at hz64 hlen henc
 obtain ⟨E, hE⟩ : ∃ E, encS x = E := ⟨_, rfl⟩
 rw [hE] at henc ⊢
 have HZ := hid hz; have HE := hid henc
 clear hz henc hE
 have hlo : ¬ x < -4611686018427387903 := by omega
 have hhi : ¬ 4611686018427387903 < x := by omega
 go_enter Tryz.func64, Tryz.ntmps64
 go_wp2_with fail
 refine (refZig_any x h0 h1 _).mono ?_
 rw [HZ.out]
 rintro e w' ⟨rfl, rfl⟩
 go_wp2_with fail
 go_loopw [4, 5] (fun zv v wr => ∃ (pre : List UInt8) (y : Nat), zv = .int .u64 (y : Nat) ∧ y ≤ z ∧ uvarint z = pre ++ uvarint y ∧ wr.ownsRow w.heap.size 5 1 v pre.length (byteVals pre) ∧ Below w.heap.size w wr) (fun zv _ _ => (RowKit.intOf zv).toNat)
 case atStart => exact ⟨[], z, rfl, Nat.le_refl _, rfl, World.ownsRow_nil _ _ _ _, Below.refl _ _⟩
 obtain ⟨pre, y, rfl, hyz, hpre, hown, hbr⟩ := hrel
 have hpl : pre.length + (uvarint y).length ≤ 9 := by rw [hpre] at hlen; simpa using hlen
 have hyp := uvarint_pos y
 have HP := hid hpre
 have hsz := hbr.size
 clear hpre
 by_cases hbig : 128 ≤ y
 · have hb2 : (128 : Int) ≤ (y : Int) := by omega
   have hm2 : (y : Int) ≤ 9223372036854775806 := by omega
   go_wp2_with (first | (at_builtin; refine wpList_append_own _ rfl _ _ 44 rfl w.heap.size 5 i0 (.int .u8 0) 1 1 Tryz.underlying44 hi hz0 hz1 hz2 rfl (by decide) _ _ _ rfl (hown.alloc _) ⟨wr.heap.size, 0, none⟩ 1 1 [.int .u8 ((y : Int) % 128 + 128)] rfl rfl ?c1 ?c2 ?c3 ?c4 ?c5 ?_))
   case c1 => exact cell_one_new _ _ _
   case c2 => intro u hu; simp at hu; subst hu; rfl
   case c3 => unfold maxLen; omega
   case c4 => omega
   case c5 => simp; omega
   intro v' w1 hown' hgrow _
   rw [byteVals_snoc pre (y % 128 + 128).toUInt8 _ (by rw [toU8 _ (by omega)]; omega)] at hown'
   have hb' := ((hbr.alloc hsz _).grown hgrow (by simp; omega) (own_block_ge hown))
   have hl1 : pre.length + 1 = (pre ++ [(y % 128 + 128).toUInt8]).length := by simp
   rw [hl1] at hown'
   obtain ⟨P2, hP2⟩ : ∃ P2, pre ++ [(y % 128 + 128).toUInt8] = P2 := ⟨_, rfl⟩
   rw [hP2] at hown'
   have hpre2 : uvarint z = P2 ++ uvarint (y / 128) := by rw [HP.out, uvarint_big hbig, ← hP2]; simp
   have HO := hid hown'; have HB := hid hb'; have HP2 := hid hpre2
   clear hown' hgrow hown hb' hl1 hP2 hpre2
   go_wp2
   go_roundw
   case rel => exact ⟨P2, y / 128, congrArg (Value.int .u64) (by omega), by omega, HP2.out, HO.out, HB.out⟩
   case measure => simp [RowKit.intOf]; omega
 have hb2 : (y : Int) < 128 := by omega
 have hb3 : ¬ (128 : Int) ≤ (y : Int) := by omega
 have huy : uvarint y = [y.toUInt8] := uvarint_small (by omega)
 go_wp2_with (first | (at_builtin; refine wpList_append_own _ rfl _ _ 44 rfl w.heap.size 5 i0 (.int .u8 0) 1 1 Tryz.underlying44 hi hz0 hz1 hz2 rfl (by decide) _ _ _ rfl (hown.alloc _) ⟨wr.heap.size, 0, none⟩ 1 1 [.int .u8 (y : Int)] rfl rfl ?d1 ?d2 ?d3 ?d4 ?d5 ?_))
 case d2 => first | rfl | (intro u hu; simp at hu; subst hu; rfl)
 case d3 => unfold maxLen; omega
 case d4 => omega
 case d5 => first | omega | (simp; omega)
 intro v' w1 hown' hgrow _
 rw [byteVals_snoc pre y.toUInt8 _ (by rw [toU8 _ (by omega)])] at hown'
 have hb' := ((hbr.alloc hsz _).grown hgrow (by simp; omega) (own_block_ge hown))
 obtain ⟨g', cap', hv'⟩ := ownsRow_succ hown'
 rw [hv'] at hown' ⊢
 have hby := own_bytes hown'
 have hEq : (⟨(pre ++ [y.toUInt8]).toArray⟩ : ByteArray) = E := by rw [HE.out, HP.out, huy]
 rw [hEq] at hby
 have hEs : E.size = pre.length + 1 := by
  rw [← hEq]
  show ((pre ++ [y.toUInt8]).toArray).size = _
  simp
 have hconv := run_convert_whole (P := Tryz.prog) w1 44 5 9 Tryz.underlying44 Tryz.underlying5 Tryz.underlying9 g' 0 E hby cap'
 rw [hEs] at hconv
 have HB := hid hb'
 clear hown' hgrow hown hb' hby hEq hEs hv' huy
 go_wp2
 go_ret2
 exact ⟨rfl, HB.out⟩
theorem ref_same (s : ByteArray) (L : List UInt8) (hL : s.data.toList = L) (p k Z : Nat) (hz : Z ≤ maxZ) {E X : ByteArray} (hE : encS (unz Z) = E) (hX : s.extract p (p + k + 1) = X)
 {c : Prop} [Decidable c] (h : scan 0 0 (L.drop p) = if c then none else some (Z, k + 1)) :
 (E = X → scan 0 0 (L.drop p) = some (Z, k + 1)) ∧ (¬ E = X → scan 0 0 (L.drop p) = none) := by
 subst hE hX hL
 have hX : (s.extract p (p + k + 1)).data.toList = (s.data.toList.drop p).take (k + 1) := by
  rw [Lib.extract_data]; simp; congr 1; omega
 have hE : (encS (unz Z)).data.toList = uvarint Z := by
  show uvarint (zigzag (unz Z)) = _
  rw [zigzag_unz]
 constructor
 · intro e
   have e2 := congrArg (fun b => b.data.toList) e
   simp only [hX, hE] at e2
   have e3 : s.data.toList.drop p = uvarint Z ++ (s.data.toList.drop p).drop (k + 1) := by rw [e2, List.take_append_drop]
   have e4 := scan_of_enc hz ((s.data.toList.drop p).drop (k + 1))
   rw [← e3] at e4
   by_cases hc : c
   · rw [if_pos hc, e4] at h; cases h
   rw [if_neg hc] at h; exact h
 intro e
 by_cases hc : c
 · rw [if_pos hc] at h; exact h
 rw [if_neg hc] at h
 obtain ⟨_, hn, hp⟩ := scan_is_enc h
 exact absurd (bytes_ext (by rw [hX, hE, hn]; exact List.prefix_iff_eq_take.1 hp)) e
theorem refInt_any (s : ByteArray) (hs : s.size ≤ 281474976710656) (p : Nat) (hp : p ≤ s.size) (w : World) :
 Calls Tryz.prog 79 #[.string s, .int .i64 (p : Nat)] w fun e w' => e = .returned (intOut p (scan 0 0 (s.data.toList.drop p))) ∧ Below w.heap.size w w' := by
 have hp2 : ¬ (s.size : Int) < (p : Int) := by omega
 have hp3 : ¬ (p : Int) < 0 := by omega
 obtain ⟨L, hL⟩ : ∃ L, s.data.toList = L := ⟨_, rfl⟩
 rw [hL]
 have HL := hid hL
 clear hL
 go_enter Tryz.func79, Tryz.ntmps79
 go_wp2
 go_loop [7, 8] (fun z i => ∃ k acc : Nat, k ≤ 9 ∧ i = .int .i64 k ∧ z = .int .u64 acc ∧ acc < 2 ^ (7 * k) ∧ scan 0 0 (L.drop p) = scan k acc (L.drop (p + k))) (fun _ i => 9 - (RowKit.intOf i).toNat)
 case atStart => exact ⟨0, 0, by omega, rfl, rfl, by simp, rfl⟩
 obtain ⟨k, acc, hk, rfl, rfl, hacc, hsc⟩ := hrel
 have HS := hid hsc
 clear hsc
 by_cases h9 : k < 9
 · by_cases hb : p + k < s.size
   · have h92 : (k : Int) < 9 := by omega
     have hb2 : (p : Int) + (k : Int) < (s.size : Int) := by omega
     have hb8 : s[p + k].toNat < 256 := s[p + k].toNat_lt
     obtain ⟨Z, hZ⟩ : ∃ Z, acc + s[p + k].toNat % 128 * 2 ^ (7 * k) = Z := ⟨_, rfl⟩
     have hA := acc_lt acc s[p + k].toNat k hacc
     have hW : IntKind.u64.wrap ((acc : Int) + IntKind.u64.wrap ((s[p + k].toNat : Int) % 128 * 2 ^ (7 * k))) = (Z : Int) := by
      have := wrap_acc acc s[p + k].toNat k (by omega) hacc
      rw [hZ, Nat.mul_comm k 7] at this
      exact this
     rw [hZ] at hA
     have h63 := pow_le_63 (k + 1) (by omega)
     have hZ63 : Z < 9223372036854775808 := by omega
     have HCO := hid (drop_byte s L HL.out (p + k) hb)
     have HA := hid hA; have HZ := hid hZ
     clear hA hZ h63 hacc
     by_cases hbig : 128 ≤ s[p + k].toNat
     · have hbig2 : (128 : Int) ≤ (s[p + k].toNat : Int) := by omega
       go_wp2
       go_round
       case rel => exact ⟨k + 1, Z, by omega, by go_num, rfl, HA.out, by rw [HS.out, HCO.out, scan_more (by omega) hbig, HZ.out]; rfl⟩
       case measure => simp [RowKit.intOf]; omega
     have hbig2 : (s[p + k].toNat : Int) < 128 := by omega
     have hscan : scan 0 0 (L.drop p) = if (s[p + k].toNat = 0 ∧ 0 < k) ∨ maxZ < Z then none else some (Z, k + 1) := by
      rw [HS.out, HCO.out]
      simp only [scan]
      have hz2 : acc + s[p + k].toNat * 2 ^ (7 * k) = Z := by rw [← HZ.out, Nat.mod_eq_of_lt (by omega)]
      rw [if_neg (by omega), if_neg (by omega), hz2]
     have HSC := hid hscan
     clear hscan
     have hsl := fun w' => slice_at (P := Tryz.prog) 9 Tryz.underlying9 s (p : Int) ((p : Int) + (k : Int) + 1) p (p + k + 1) rfl (by omega) (by omega) (by omega) w'
     by_cases ho : Z % 2 = 1
     · have hu : unz Z = -((Z : Int) / 2) - 1 := by unfold unz; rw [if_neg (by omega)]; omega
       have HU := hid hu
       have hob : (((Z : Int) % 2) == 1) = true := by rw [beq_iff_eq]; omega
       have HO := hid ho
       clear hu ho
       by_cases htop : Z = 9223372036854775807
       · have HT := hid htop
         go_wp2_with fail
         refine (refPut_no _ (by omega) _).mono ?_
         rintro e w' ⟨rfl, hb⟩
         go_wp2
         go_ret3
         exact ⟨by rw [HSC.out, if_pos (.inr (by unfold maxZ; omega))]; rfl, hb⟩
       have hz805 : Z ≤ 9223372036854775805 := by have := HO.out; omega
       go_wp2_with fail
       refine (refPut_yes _ (by omega) (by omega) _).mono ?_
       rw [← HU.out]
       rintro e w' ⟨rfl, hb⟩
       obtain ⟨E, hE⟩ : ∃ E, encS (unz Z) = E := ⟨_, rfl⟩
       obtain ⟨X, hX⟩ : ∃ X, s.extract p (p + k + 1) = X := ⟨_, rfl⟩
       rw [hE]
       rw [hX] at hsl
       have hEX := ref_same s L HL.out p k Z (by unfold maxZ; omega) hE hX HSC.out
       have HEX := hid hEX
       clear hE hX hEX
       by_cases heq : E = X
       · subst heq
         go_wp2
         go_ret3
         exact ⟨(out_eq p Z (k + 1) ((p : Int) + (k : Int) + 1) (by omega)).trans (by rw [HEX.out.1 trivial]), hb⟩
       have hne := str_ne heq
       have HNE := hid heq
       clear heq
       go_wp2
       go_ret3
       exact ⟨by rw [HEX.out.2 HNE.out]; rfl, hb⟩
     have hu : unz Z = (Z : Int) / 2 := by unfold unz; rw [if_pos (by omega)]; omega
     have HU := hid hu
     have hz806 : Z ≤ 9223372036854775806 := by omega
     have hob : (((Z : Int) % 2) == 1) = false := by rw [beq_eq_false_iff_ne]; omega
     clear hu ho
     go_wp2_with fail
     refine (refPut_yes _ (by omega) (by omega) _).mono ?_
     rw [← HU.out]
     rintro e w' ⟨rfl, hb⟩
     obtain ⟨E, hE⟩ : ∃ E, encS (unz Z) = E := ⟨_, rfl⟩
     obtain ⟨X, hX⟩ : ∃ X, s.extract p (p + k + 1) = X := ⟨_, rfl⟩
     rw [hE]
     rw [hX] at hsl
     have hEX := ref_same s L HL.out p k Z (by unfold maxZ; omega) hE hX HSC.out
     have HEX := hid hEX
     clear hE hX hEX
     by_cases heq : E = X
     · subst heq
       go_wp2
       go_ret3
       exact ⟨(out_eq p Z (k + 1) ((p : Int) + (k : Int) + 1) (by omega)).trans (by rw [HEX.out.1 trivial]), hb⟩
     have hne := str_ne heq
     have HNE := hid heq
     clear heq
     go_wp2
     go_ret3
     exact ⟨by rw [HEX.out.2 HNE.out]; rfl, hb⟩
   have hb2 : ¬ (p : Int) + (k : Int) < (s.size : Int) := by omega
   have h92 : (k : Int) < 9 := by omega
   have hn : scan k acc (L.drop (p + k)) = none := by
    have hLs : L.length = s.size := by rw [← HL.out]; simp
    rw [List.drop_of_length_le (by omega)]; rfl
   have HN := hid hn
   clear hn
   go_wp2
   go_ret3
   exact ⟨by rw [HS.out, HN.out]; rfl, Below.refl _ _⟩
 have h92 : ¬ (k : Int) < 9 := by omega
 have hn : scan k acc (L.drop (p + k)) = none := by
  cases hd : L.drop (p + k) with
  | nil => rfl
  | cons b l => simp only [scan]; rw [if_pos (by omega)]
 have HN := hid hn
 clear hn
 go_wp2
 go_ret3
 exact ⟨by rw [HS.out, HN.out]; rfl, Below.refl _ _⟩
theorem refInt_some (s : ByteArray) (hs : s.size ≤ 281474976710656) (p : Nat) (hp : p ≤ s.size) (z n : Nat) (h : scan 0 0 (s.data.toList.drop p) = some (z, n)) (w : World) :
 Calls Tryz.prog 79 #[.string s, .int .i64 (p : Nat)] w fun e w' => e = .returned (.tuple #[.int .i64 (unz z), .int .i64 ((p : Int) + (n : Int)), .int .i64 0]) ∧ Below w.heap.size w w' := by
 have := refInt_any s hs p hp w
 rw [h] at this
 exact this
theorem refInt_none (s : ByteArray) (hs : s.size ≤ 281474976710656) (p : Nat) (hp : p ≤ s.size) (h : scan 0 0 (s.data.toList.drop p) = none) (w : World) :
 Calls Tryz.prog 79 #[.string s, .int .i64 (p : Nat)] w fun e w' => e = .returned (.tuple #[.int .i64 0, .int .i64 0, .int .i64 10]) ∧ Below w.heap.size w w' := by
 have := refInt_any s hs p hp w
 rw [h] at this
 exact this
theorem refString_none (s : ByteArray) (hs : s.size ≤ 281474976710656) (p : Nat) (hp : p ≤ s.size) (h : scan 0 0 (s.data.toList.drop p) = none) (w : World) :
 Calls Tryz.prog 78 #[.string s, .int .i64 (p : Nat)] w fun e w' => e = .returned (.tuple #[.string ByteArray.empty, .int .i64 0, .int .i64 10]) ∧ Below w.heap.size w w' := by
 have H := hid h
 clear h
 go_enter Tryz.func78, Tryz.ntmps78
 go_wp2_with (go_at_call 79; refine (refInt_none s hs p hp H.out _).mono ?_; rintro e w' ⟨rfl, hb⟩)
 go_ret3
 exact ⟨rfl, hb⟩
theorem refString_bad (s : ByteArray) (hs : s.size ≤ 281474976710656) (p : Nat) (hp : p ≤ s.size) (z n : Nat) (h : scan 0 0 (s.data.toList.drop p) = some (z, n))
 (hbad : unz z < 0 ∨ 65536 < unz z ∨ (s.size : Int) - ((p : Int) + (n : Int)) < unz z) (w : World) :
 Calls Tryz.prog 78 #[.string s, .int .i64 (p : Nat)] w fun e w' => e = .returned (.tuple #[.string ByteArray.empty, .int .i64 0, .int .i64 10]) ∧ Below w.heap.size w w' := by
 have hf := scan_fits hp h
 have hz := (scan_is_enc h).1
 obtain ⟨hu1, hu2⟩ := unz_range hz
 have H := hid h
 clear h hz
 have HS := hid hs
 obtain ⟨u, hu⟩ : ∃ u, unz z = u := ⟨_, rfl⟩
 rw [hu] at hbad hu1 hu2
 have HU := hid hu
 clear hu
 by_cases h1 : u < 0
 · clear hbad
   go_enter Tryz.func78, Tryz.ntmps78
   go_wp2_with (go_at_call 79; refine (refInt_some s HS.out p hp z n H.out _).mono ?_; rw [HU.out]; rintro e w' ⟨rfl, hb⟩)
   go_ret3
   exact ⟨rfl, hb⟩
 by_cases h2 : 65536 < u
 · clear hbad
   go_enter Tryz.func78, Tryz.ntmps78
   go_wp2_with (go_at_call 79; refine (refInt_some s HS.out p hp z n H.out _).mono ?_; rw [HU.out]; rintro e w' ⟨rfl, hb⟩)
   go_ret3
   exact ⟨rfl, hb⟩
 have h3 : (s.size : Int) - ((p : Int) + (n : Int)) < u := by omega
 clear hbad
 go_enter Tryz.func78, Tryz.ntmps78
 go_wp2_with (go_at_call 79; refine (refInt_some s HS.out p hp z n H.out _).mono ?_; rw [HU.out]; rintro e w' ⟨rfl, hb⟩)
 go_ret3
 exact ⟨rfl, hb⟩
theorem refString_ok (s : ByteArray) (hs : s.size ≤ 281474976710656) (p : Nat) (hp : p ≤ s.size) (z n m : Nat) (h : scan 0 0 (s.data.toList.drop p) = some (z, n))
 (hm : unz z = (m : Int)) (h1 : m ≤ 65536) (h2 : p + n + m ≤ s.size) (w : World) :
 Calls Tryz.prog 78 #[.string s, .int .i64 (p : Nat)] w fun e w' => e = .returned (.tuple #[.string (s.extract (p + n) (p + n + m)), .int .i64 ((p : Int) + (n : Int) + (m : Int)), .int .i64 0]) ∧ Below w.heap.size w w' := by
 have H := hid h
 have HM := hid hm
 have HS := hid hs
 clear h hm
 have h1' : (m : Int) ≤ 65536 := by omega
 have h2' : (m : Int) ≤ (s.size : Int) - ((p : Int) + (n : Int)) := by omega
 have hsl := fun w' => slice_at (P := Tryz.prog) 9 Tryz.underlying9 s ((p : Int) + (n : Int)) ((p : Int) + (n : Int) + (m : Int)) (p + n) (p + n + m) (by omega) (by omega) (by omega) h2 w'
 go_enter Tryz.func78, Tryz.ntmps78
 go_wp2_with (go_at_call 79; refine (refInt_some s HS.out p hp z n H.out _).mono ?_; rw [HM.out]; rintro e w' ⟨rfl, hb⟩)
 go_ret3
 exact ⟨rfl, hb⟩
theorem refPutString_ok (s : ByteArray) (h : s.size ≤ 65536) (w : World) :
 Calls Tryz.prog 63 #[.string s] w fun e w' => e = .returned (.tuple #[.string (encS s.size ++ s), .int .i64 0]) ∧ Below w.heap.size w w' := by
 have h' : (s.size : Int) ≤ 65536 := by omega
 have hcat : (encS (s.size : Int)).size + s.size ≤ 9223372036854775807 := by have := encS_size_le (s.size : Int) (by omega) (by omega); omega
 go_enter Tryz.func63, Tryz.ntmps63
 go_wp2_with (go_at_call 64; refine (refPut_yes (s.size : Int) (by omega) (by omega) _).mono ?_; rintro e w' ⟨rfl, hb⟩)
 go_ret2
 exact ⟨rfl, hb⟩
end Go.Proofs.YtcglcgphgahnpaaGreatDoor.W1
