/-
  The contracts of the reference's Sum, Leaf, Node and Chain: they return what the program's do.
-/
import Derived.Test.YtdolmahodhgfpaaDoorRefBlk
namespace Go.Proofs.YtdolmahodhgfpaaDoor
open Go Go.Proofs Go.RowKit Go.Lib

theorem u8_elem : Tryd.prog.underlying 67 = some (.slice (Tryd.prog.elem 67)) := by kernel_rfl
theorem u8_size (w : World) : (Go.sizeOf (Tryd.prog.elem 67)).run Tryd.prog w = .ok 1 w := by kernel_rfl
theorem slice_64 (g n c i : Nat) (hi : i + 64 ≤ c) (w : World) :
    (Instr.slice 67 (.slice (some ⟨g, 0, none⟩) n c) (some (.int .i64 (i : Nat))) (some (.int .i64 ((i : Int) + 64))) none).run Tryd.prog w = .ok (.slice (some ⟨g, i, none⟩) 64 (c - i)) w := by
  have h2 : ¬ c = i := by omega
  rw [run_slice_lh w _ _ _ _ u8_elem .i64 .i64 _ _ (by omega) (by omega) (by omega), u8_size]
  simp [Result.andThen, sliced, Addr.add, h2]
  omega
theorem word4_next (S : List Nat) (k : Nat) (h : k < S.length) : (S.take (k + 1)).flatMap word4 = (S.take k).flatMap word4 ++ word4 (S.getD k 0) := by
  rw [take_next S k h, List.flatMap_append]; simp
theorem nums_shaL {W : World} {g : Nat} {M : List Nat} (h : NumsAt .u8 W g 0 (shaN M)) : Bytes W g 0 (shaL M) := by
  intro i hi
  have hl : (shaL M).size = 32 := by
    show ((shaN M).map Nat.toUInt8).toArray.size = 32
    rw [List.size_toArray, List.length_map, shaN_length]
  rw [h i (by rw [shaN_length]; omega)]
  have hb : (shaN M).getD i 0 < 256 := getD_byte (word4s_lt _) i
  have e : ((shaL M)[i]).toNat = (shaN M).getD i 0 := by
    have e1 : (shaL M)[i] = ((shaN M).map Nat.toUInt8).toArray[i]'(by simp [shaN_length]; omega) := rfl
    rw [e1]
    have hi2 : i < (shaN M).length := by rw [shaN_length]; omega
    have e2 : (shaN M).getD i 0 = (shaN M)[i] := by simp [List.getD_eq_getElem?_getD, hi2]
    rw [e2] at hb ⊢
    simp
    omega
  rw [e]

set_option maxRecDepth 100000 in
set_option maxHeartbeats 8000000 in
theorem sumR_any (s : ByteArray) (hs : s.size ≤ 1099511627776) (w : World) :
    Calls Tryd.prog 35 #[.string s] w fun e w' => e = .returned (.string (sha s)) ∧ Below w.heap.size w w' := by
  obtain ⟨D, hD⟩ : ∃ D, sha s = D := ⟨_, rfl⟩
  rw [hD]
  have HD := Lib.hid hD
  clear hD
  go_enter Tryd.func35, Tryd.ntmps35
  go_wp2_with fail
  refine (extended_any s hs _).mono ?_
  rintro e w2 ⟨vb, rfl, hob, b2⟩
  have hB2 : Below w.heap.size w w2 := ((Below.refl w.heap.size w).alloc (Nat.le_refl _) _).trans (b2.mono (by simp))
  have hz2 : w.heap.size < w2.heap.size := by have := b2.size; simp at this; omega
  have hiv : NumsAt .u32 w2 w.heap.size 0 shaIV := (new_nums .u32 w shaIV 70).below b2 (by simp)
  have hpm := shaPad_mod (natsOf s)
  have hpl := shaPad_length (natsOf s)
  have hpp : padZ (natsOf s).length < 64 := by unfold padZ; omega
  rw [natsOf_length] at hpl hpp
  have hlt8 := shaPad_lt (natsOf_lt s)
  have hsha : D = shaL (natsOf s) := by rw [← HD.out]; exact sha_eq s
  have hblk : shaN (natsOf s) = ((cutB (shaPad (natsOf s)) ((shaPad (natsOf s)).length / 64)).foldl comp shaIV).flatMap word4 := rfl
  obtain ⟨P, hP⟩ : ∃ P, shaPad (natsOf s) = P := ⟨_, rfl⟩
  rw [hP] at hob hpm hpl hlt8 hblk
  obtain ⟨N, hN⟩ : ∃ N, P.length = N := ⟨_, rfl⟩
  rw [hN] at hpm hpl hblk
  have hN0 : 64 ≤ N := by omega
  have hN1 : N ≤ 1099511627976 := by omega
  obtain ⟨gb, cb, rfl, hcb, hgb0, hgb, hnb, hcm⟩ := hob.form N hN (by omega)
  have HB2 := Lib.hid hB2; have HIV := Lib.hid hiv; have HSH := Lib.hid hsha; have HBLK := Lib.hid hblk; have HNB := Lib.hid hnb; have HN := Lib.hid hN; have HL8 := Lib.hid hlt8
  clear hB2 hiv hsha hblk hnb hN hlt8 hpl hpp hob b2 hP hgb0 HD hs hcm
  obtain ⟨gi, hgi⟩ : ∃ g, w.heap.size = g := ⟨_, rfl⟩
  rw [hgi] at HIV hz2
  have HGI := Lib.hid hgi
  go_wp2_with fail
  go_loopw [3, 5] (fun v i wr => ∃ (j gh ch : Nat), 64 * j ≤ N ∧ i = .int .i64 ((64 * j : Nat) : Int) ∧ v = .slice (some ⟨gh, 0, none⟩) 8 ch ∧ gh < wr.heap.size ∧ Hid (NumsAt .u32 wr gh 0 ((cutB P j).foldl comp shaIV)) ∧ Hid (Below w2.heap.size w2 wr)) (fun _ i _ => N - (RowKit.intOf i).toNat)
  case atStart =>
    refine ⟨0, gi, 8, by omega, rfl, ?_, hz2, HIV.out, Below.refl _ _⟩
    first | rfl | (rw [hgi])
  case round =>
    obtain ⟨j, gh, ch, hj, rfl, rfl, hgh, hnh, hbr⟩ := hrel
    by_cases hlt : 64 * j < N
    · have hnext : (cutB P (j + 1)).foldl comp shaIV = comp ((cutB P j).foldl comp shaIV) ((P.drop (64 * j)).take 64) := by rw [cutB_succ, List.foldl_append]; rfl
      have hS := fold_lt (cutB P j) shaIV shaIV_lt
      have hSl := foldl_comp_length (cutB P j) shaIV rfl
      have hBl : ((P.drop (64 * j)).take 64).length = 64 := by rw [List.length_take, List.length_drop, HN.out]; omega
      have hBt : ∀ x ∈ (P.drop (64 * j)).take 64, x < 256 := fun x hx => HL8.out x (List.mem_of_mem_drop (List.mem_of_mem_take hx))
      have hnb := (HNB.out.below hbr.out hgb).sub (64 * j) 64 (by rw [HN.out]; omega)
      rw [Nat.zero_add] at hnb
      obtain ⟨S, eS⟩ : ∃ S, (cutB P j).foldl comp shaIV = S := ⟨_, rfl⟩
      obtain ⟨B, eB⟩ : ∃ B, (P.drop (64 * j)).take 64 = B := ⟨_, rfl⟩
      rw [eS] at hnext hS hSl hnh
      rw [eB] at hnext hBl hBt hnb
      have hj2 : 64 * (j + 1) ≤ N := by omega
      have hjn : 64 * (j + 1) = 64 * j + 64 := by omega
      obtain ⟨p, hp⟩ : ∃ p, 64 * j = p := ⟨_, rfl⟩
      rw [hp] at hnb hjn hlt ⊢
      have hgbr : gb < wr.heap.size := Nat.lt_of_lt_of_le hgb hbr.out.size
      have c := block_any S B hSl hS hBl hBt gh ch gb p (cb - p) wr hnh.out hgh hnb hgbr
      have hsl := fun w => slice_64 gb N cb p (by omega) w
      have hcl := comp_length S B hSl
      have hp1 : (p : Int) < (N : Int) := by omega
      have hp2 : (p : Int) ≤ 1099511627976 := by omega
      have C := Lib.hid c; have HNX := Lib.hid hnext; have HCL := Lib.hid hcl
      clear c hnext hcl hS hSl hBl hBt hnb hnh eS eB
      go_wp2_with fail
      refine C.out.mono ?_
      rintro e w5 ⟨v5, rfl, ho5, b5⟩
      obtain ⟨g5, c5, rfl, _, _, hg5, hn5, _⟩ := ho5.form 8 HCL.out (by omega)
      have hb5 : Below w2.heap.size w2 w5 := hbr.out.trans (b5.mono hbr.out.size)
      go_wp2
      go_roundw
      case rel => exact ⟨j + 1, g5, c5, hj2, by rw [hjn]; go_num, rfl, hg5, by rw [HNX.out]; exact hn5, hb5⟩
      case measure => simp [RowKit.intOf]; omega
    · have hjN : 64 * j = N := by omega
      have hjd : N / 64 = j := by omega
      have hbk := HBLK.out
      rw [hjd] at hbk
      have hSl := foldl_comp_length (cutB P j) shaIV rfl
      have hB4 : Below w.heap.size w wr := HB2.out.trans (hbr.out.mono (by rw [hgi]; omega))
      obtain ⟨S, eS⟩ : ∃ S, (cutB P j).foldl comp shaIV = S := ⟨_, rfl⟩
      rw [eS] at hbk hSl hnh
      rw [hjN]
      obtain ⟨W4, hW4⟩ : ∃ W : World, W = wr := ⟨_, rfl⟩
      rw [← hW4] at hnh hB4 hgh ⊢
      have HB4 := Lib.hid hB4; have HSL := Lib.hid hSl; have HBK := Lib.hid hbk; have HNH := Lib.hid hnh.out
      clear hB4 hSl hbk hjN hjd hj hlt eS hW4 hbr hnh HBLK HIV HB2 HNB HL8
      go_wp2_with fail
      go_loopw [6, 7] (fun v i wr => ∃ k : Nat, k ≤ 8 ∧ i = .int .i64 k ∧ Hid (Own8 wr W4.heap.size v ((S.take k).flatMap word4)) ∧ Hid (Below W4.heap.size W4 wr)) (fun _ i _ => 8 - (RowKit.intOf i).toNat)
      case atStart => exact ⟨0, by omega, rfl, Own8.nil _ _, Below.refl _ _⟩
      case round =>
        obtain ⟨k, hk, rfl, hown, hbr⟩ := hrel
        by_cases hlt : k < 8
        · have hk1 : (k : Int) < 8 := by omega
          have hk2 : (0 : Int) ≤ (k : Int) := by omega
          have hsize := hbr.out.size
          have hcb : ∀ W, Below W4.heap.size W4 W → W.cell? ⟨gh, k, none⟩ = some (.int .u32 ((S.getD k 0 : Nat) : Int)) := fun W hW => by
            have e1 := HNH.out.below hW hgh k (by rw [HSL.out]; omega)
            rwa [Nat.zero_add] at e1
          have hnext := word4_next S k (by rw [HSL.out]; exact hlt)
          have hql : ((S.take k).flatMap word4).length ≤ 32 := by rw [word4s_length, List.length_take]; omega
          obtain ⟨x, ex⟩ : ∃ x, S.getD k 0 = x := ⟨_, rfl⟩
          rw [ex] at hcb hnext
          obtain ⟨q, hq⟩ : ∃ q, (S.take k).flatMap word4 = q := ⟨_, rfl⟩
          rw [hq] at hown hnext hql
          have z0 : IntKind.u8.wrap ((x : Int) / 16777216) = ((x / 16777216 % 256 : Nat) : Int) := by rw [IntKind.wrap_u8]; omega
          have z1 : IntKind.u8.wrap ((x : Int) / 65536) = ((x / 65536 % 256 : Nat) : Int) := by rw [IntKind.wrap_u8]; omega
          have z2 : IntKind.u8.wrap ((x : Int) / 256) = ((x / 256 % 256 : Nat) : Int) := by rw [IntKind.wrap_u8]; omega
          have z3 : IntKind.u8.wrap (x : Int) = ((x % 256 : Nat) : Int) := by rw [IntKind.wrap_u8]; omega
          have hw4 : word4 x = [x / 16777216 % 256, x / 65536 % 256, x / 256 % 256, x % 256] := rfl
          obtain ⟨b0, e0⟩ : ∃ b, x / 16777216 % 256 = b := ⟨_, rfl⟩
          obtain ⟨b1, e1⟩ : ∃ b, x / 65536 % 256 = b := ⟨_, rfl⟩
          obtain ⟨b2, e2⟩ : ∃ b, x / 256 % 256 = b := ⟨_, rfl⟩
          obtain ⟨b3, e3⟩ : ∃ b, x % 256 = b := ⟨_, rfl⟩
          rw [e0] at z0 hw4; rw [e1] at z1 hw4; rw [e2] at z2 hw4; rw [e3] at z3 hw4
          rw [hw4] at hnext
          have hql4 : q.length + 4 ≤ 17592186044416 := by omega
          have HN2 := Lib.hid hnext; have HCB := Lib.hid hcb
          clear hnext hcb ex hq hw4 e0 e1 e2 e3 hql
          go_wp2_with fail
          go_region_held3 (fun W => W.cell? ⟨gh, k, none⟩ = some (.int .u32 (x : Nat)))
            (first | exact HCB.out _ (below_same hbr.out rfl rfl rfl rfl) | exact HCB.out _ (mid_below hbr.out hsize rfl) | exact HCB.out _ hb3)
            ((refine step_push8 (w0 := W4) rfl _ _ rfl W4.heap.size _ q [b0, b1, b2, b3] rfl (mid8 hown.out rfl) (mid_below hbr.out hsize rfl) (Nat.le_trans hsize (by simp)) wr.heap.size 0 4 4 rfl rfl (mid_nums [b0, b1, b2, b3] rfl) hql4 ?_; intro v3 W3 ho3 hb3 hg3))
          all_goals (go_wp2; go_roundw; (case rel => exact ⟨k + 1, by omega, by go_num, by rw [HN2.out]; exact ho3, hb3⟩); (case measure => simp [RowKit.intOf]; omega))
        · have hk1 : ¬ (k : Int) < 8 := by omega
          have hk8 : k = 8 := by omega
          rw [hk8, List.take_of_length_le (by rw [HSL.out]; omega), ← HBK.out] at hown
          obtain ⟨g, cap, rfl, _, _, _, hn, _⟩ := hown.out.form 32 (shaN_length _) (by omega)
          have hconv := run_convert_whole (P := Tryd.prog) wr 67 5 9 Tryd.underlying67 Tryd.underlying5 Tryd.underlying9 g 0 (shaL (natsOf s)) (nums_shaL hn) cap
          have hsz : (shaL (natsOf s)).size = 32 := by
            show ((shaN (natsOf s)).map Nat.toUInt8).toArray.size = 32
            rw [List.size_toArray, List.length_map, shaN_length]
          rw [hsz, ← HSH.out] at hconv
          have hbf : Below w.heap.size w wr := HB4.out.trans (hbr.out.mono HB4.out.size)
          clear hn hsz hown
          subst hk8
          go_wp2_with fail
          go_ret
          exact ⟨rfl, by rw [← HGI.out]; exact hbf⟩
end Go.Proofs.YtdolmahodhgfpaaDoor
