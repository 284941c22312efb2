/-
  The contract of the reference's extended: a string with the bytes that are added to it.
-/
import Derived.Test.YtdolmahodhgfpaaDoorRefRw
import Derived.OwnWalkIn
import Derived.BigQuiet
namespace Go.Proofs.YtdolmahodhgfpaaDoor
open Go Go.Proofs Go.RowKit Go.Lib

theorem take_next (l : List Nat) (k : Nat) (h : k < l.length) : l.take (k + 1) = l.take k ++ [l.getD k 0] := by
  rw [List.take_succ_eq_append_getElem h]; simp [List.getD_eq_getElem?_getD, h]
theorem be8_length (n : Nat) : (be8 n).length = 8 := by simp [be8]
theorem be8_get (n q : Nat) (h : q < 8) : (be8 n).getD (7 - q) 0 = n / 2 ^ (8 * q) % 256 := by
  rw [Nat.pow_mul]
  have : 7 - (7 - q) = q := by omega
  simp [be8, List.getD_eq_getElem?_getD, show 7 - q < 8 by omega, this]
theorem rep_next (l : List Nat) (z : Nat) : (l ++ 128 :: List.replicate z 0) ++ [0] = l ++ 128 :: List.replicate (z + 1) 0 := by
  rw [List.append_assoc, List.cons_append, ← List.replicate_succ']

def slen (v : Value) : Nat := match v with | .slice _ n _ => n | _ => 0
set_option maxRecDepth 100000 in
set_option maxHeartbeats 4000000 in
theorem extended_any (s : ByteArray) (hs : s.size ≤ 1099511627776) (w : World) :
    Calls Tryd.prog 49 #[.string s] w fun e w' => ∃ v, e = .returned v ∧ Own8 w' w.heap.size v (shaPad (natsOf s)) ∧ Below w.heap.size w w' := by
  go_enter Tryd.func49, Tryd.ntmps49
  go_wp2_with fail
  go_loopw [3, 4] (fun v i wr => ∃ k : Nat, k ≤ s.size ∧ i = .int .i64 k ∧ Hid (Own8 wr w.heap.size v ((natsOf s).take k)) ∧ Below w.heap.size w wr) (fun _ i _ => s.size - (RowKit.intOf i).toNat)
  case atStart => exact ⟨0, Nat.zero_le _, rfl, Own8.nil _ _, Below.refl _ _⟩
  case round =>
    obtain ⟨k, hk, rfl, hown, hbr⟩ := hrel
    by_cases hlt : k < s.size
    · have hk1 : (k : Int) < (s.size : Int) := by omega
      have hbyte : (natsOf s).getD k 0 = s[k].toNat := by simp [natsOf, hlt]; rfl
      have hnext := take_next (natsOf s) k (by rw [natsOf_length]; exact hlt)
      rw [hbyte] at hnext
      have hix : ∀ w, (Instr.index 9 (.string s) (.int .i64 (k : Nat))).run Tryd.prog w = .ok (.int .u8 ((s[k].toNat : Nat) : Int)) w := by
        intro w
        have h0 : (0 : Int) ≤ (k : Int) := by omega
        simp [Instr.index, asIntOf, run_underlying Tryd.underlying9, hlt]
      obtain ⟨x, hx⟩ : ∃ x, s[k].toNat = x := ⟨_, rfl⟩
      rw [hx] at hnext hix
      obtain ⟨p, hp⟩ : ∃ p, (natsOf s).take k = p := ⟨_, rfl⟩
      have hpl : p.length + 1 ≤ 17592186044416 := by rw [← hp]; simp [natsOf_length]; omega
      rw [hp] at hown hnext
      have HN := Lib.hid hnext; have HB := Lib.hid hbr
      have hsize := hbr.size
      clear hnext hbyte hx hp hbr
      go_wp2_with (first | (at_builtin; refine walk_push8 (w0 := w) rfl _ _ rfl w.heap.size _ p [x] rfl (hown.out.alloc _) (HB.out.alloc hsize _) (Nat.le_trans hsize (by simp)) wr.heap.size 0 1 1 rfl rfl (new_num1 .u8 wr _ x rfl _) hpl ?_; intro v3 W3 ho3 hb3))
      go_roundw
      case rel => exact ⟨k + 1, by omega, by go_num, by rw [HN.out]; exact ho3, hb3⟩
      case measure => simp [RowKit.intOf]; omega
    · have hk1 : ¬ (k : Int) < (s.size : Int) := by omega
      have hk3 : k = s.size := by omega
      obtain ⟨p, hp⟩ : ∃ p, natsOf s = p := ⟨_, rfl⟩
      have hpl : p.length = s.size := by rw [← hp]; exact natsOf_length s
      rw [hk3, List.take_of_length_le (by rw [natsOf_length]; omega), hp] at hown
      have HP := Lib.hid hp; have HB := Lib.hid hbr; have HPL := Lib.hid hpl
      have hsize := hbr.size
      clear hk3 hp hbr hpl
      go_wp2_with (first | (at_builtin; refine walk_push8 (w0 := w) rfl _ _ rfl w.heap.size _ p [128] rfl (hown.out.alloc _) (HB.out.alloc hsize _) (Nat.le_trans hsize (by simp)) wr.heap.size 0 1 1 rfl rfl (new_num1 .u8 wr _ 128 rfl _) (by rw [HPL.out]; omega) ?_; intro v3 W3 ho3 hb3))
      have HO3 := Lib.hid ho3; have HB3 := Lib.hid hb3
      clear ho3 hb3 hown HB hsize
      go_loopw [3] (fun v wr => ∃ z : Nat, z ≤ padZ s.size ∧ Hid (Own8 wr w.heap.size v (p ++ 128 :: List.replicate z 0)) ∧ Hid (Below w.heap.size w wr)) (fun v _ => padZ s.size + s.size + 1 - slen v)
      case atStart => exact ⟨0, Nat.zero_le _, HO3.out, HB3.out⟩
      case round =>
        obtain ⟨z, hz, hown, hbr⟩ := hrel
        have hlen : (p ++ 128 :: List.replicate z 0).length = s.size + 1 + z := by simp [HPL.out]; omega
        obtain ⟨g, cap, rfl, hcap, hbg, hgl, _, _⟩ := hown.out.form (s.size + 1 + z) hlen (by omega)
        have hpz : padZ s.size < 64 := by unfold padZ; omega
        have hsize := hbr.out.size
        by_cases hlt : z < padZ s.size
        · have hc1 : (((s.size + 1 + z : Nat) : Int) % 64 != 56) = true := by rw [bne_iff_ne]; unfold padZ at hlt hz; omega
          have hc2 : (((s.size : Int) + 1 + (z : Int)) % 64 != 56) = true := by rw [bne_iff_ne]; unfold padZ at hlt hz; omega
          have hpl2 : (p ++ 128 :: List.replicate z 0).length + 1 ≤ 17592186044416 := by omega
          have hnext := rep_next p z
          obtain ⟨q, hq⟩ : ∃ q, p ++ 128 :: List.replicate z 0 = q := ⟨_, rfl⟩
          rw [hq] at hown hnext hpl2 hlen
          have HN := Lib.hid hnext; have HL := Lib.hid hlen
          clear hnext hq hlen
          go_wp2_with (first | (at_builtin; refine walk_push8 (w0 := w) rfl _ _ rfl w.heap.size _ q [0] rfl (hown.out.alloc _) (hbr.out.alloc hsize _) (Nat.le_trans hsize (by simp)) wr.heap.size 0 1 1 rfl rfl (new_num1 .u8 wr _ 0 rfl _) hpl2 ?_; intro v4 W4 ho4 hb4))
          obtain ⟨g4, cap4, rfl, _, _, _, _, _⟩ := ho4.form (s.size + 1 + z + 1) (by rw [List.length_append, HL.out]; rfl) (by omega)
          go_roundw
          case rel => exact ⟨z + 1, by omega, by rw [← HN.out]; exact ho4, hb4⟩
          case measure => simp [slen]; omega
        · have hzz : z = padZ s.size := by omega
          have hc1 : (((s.size + 1 + z : Nat) : Int) % 64 != 56) = false := by rw [bne_eq_false_iff_eq, hzz]; unfold padZ; omega
          have hc2 : (((s.size : Int) + 1 + (z : Int)) % 64 != 56) = false := by rw [bne_eq_false_iff_eq, hzz]; unfold padZ; omega
          have hpad : shaPad p = (p ++ 128 :: List.replicate z 0) ++ be8 (8 * s.size) := by rw [hzz]; unfold shaPad; rw [HPL.out]; simp
          obtain ⟨q, hq⟩ : ∃ q, p ++ 128 :: List.replicate z 0 = q := ⟨_, rfl⟩
          rw [hq] at hown hpad hlen
          have HPD := Lib.hid hpad; have HL := Lib.hid hlen; have HZ := Lib.hid hzz
          clear hpad hq hlen hzz hlt
          go_wp2_with fail
          go_loopw [3, 5] (fun v i wr => ∃ r : Nat, r ≤ 8 ∧ i = .int .i64 ((r : Int) - 1) ∧ Hid (Own8 wr w.heap.size v (q ++ (be8 (8 * s.size)).take (8 - r))) ∧ Hid (Below w.heap.size w wr)) (fun _ i _ => (RowKit.intOf i + 1).toNat)
          case atStart => exact ⟨8, by omega, by go_num, (by simpa using hown.out : Own8 _ _ _ (q ++ (be8 (8 * s.size)).take (8 - 8))), hbr⟩
          case round =>
            obtain ⟨r, hr, rfl, hown, hbr⟩ := hrel
            have hsize := hbr.out.size
            by_cases hr0 : 0 < r
            · obtain ⟨j, rfl⟩ : ∃ j, r = j + 1 := ⟨r - 1, by omega⟩
              have hj : (((j + 1 : Nat) : Int) - 1) = (j : Int) := by omega
              rw [hj]
              have hj0 : (0 : Int) ≤ (j : Int) := by omega
              have hj8 : (j : Int) < 8 := by omega
              have hnext := take_next (be8 (8 * s.size)) (7 - j) (by rw [be8_length]; omega)
              rw [be8_get _ _ (by omega), show 7 - j + 1 = 8 - j by omega, show 7 - j = 8 - (j + 1) by omega] at hnext
              have hbl : ((be8 (8 * s.size)).take (8 - (j + 1))).length ≤ 8 := by simp [be8_length]; omega
              obtain ⟨B, hB⟩ : ∃ B, (be8 (8 * s.size)).take (8 - (j + 1)) = B := ⟨_, rfl⟩
              rw [hB] at hown hnext hbl
              obtain ⟨x, hx⟩ : ∃ x, 8 * s.size / 2 ^ (8 * j) % 256 = x := ⟨_, rfl⟩
              have hxi : 8 * (s.size : Int) / 2 ^ (8 * j) % 256 = (x : Int) := by rw [← hx]; simp
              rw [hx] at hnext
              have hql : (q ++ B).length + 1 ≤ 17592186044416 := by rw [List.length_append, HL.out]; omega
              have HN := Lib.hid hnext; have HX := Lib.hid hxi
              clear hnext hx hxi hB
              go_wp2_with (first | (at_builtin; refine walk_push8 (w0 := w) rfl _ _ rfl w.heap.size _ (q ++ B) [x] rfl (hown.out.alloc _) (hbr.out.alloc hsize _) (Nat.le_trans hsize (by simp)) wr.heap.size 0 1 1 rfl rfl (new_num1 .u8 wr _ x HX.out _) hql ?_; intro v5 W5 ho5 hb5))
              go_roundw
              case rel => exact ⟨j, by omega, by go_num, by rw [HN.out, ← List.append_assoc]; exact ho5, hb5⟩
              case measure => simp [RowKit.intOf]
            · have hr00 : r = 0 := by omega
              subst hr00
              have hneg : ¬ (0 : Int) ≤ ((0 : Nat) : Int) - 1 := by omega
              have hfin : ∀ v, Own8 wr w.heap.size v (q ++ (be8 (8 * s.size)).take (8 - 0)) → Own8 wr w.heap.size v (shaPad p) := by
                intro v h
                rw [HPD.out]
                rwa [List.take_of_length_le (by rw [be8_length]; omega)] at h
              have HF := Lib.hid hfin
              clear hfin
              go_wp2_with fail
              go_ret
              exact ⟨_, rfl, by rw [HP.out]; exact HF.out _ hown.out, hbr.out⟩
end Go.Proofs.YtdolmahodhgfpaaDoor
