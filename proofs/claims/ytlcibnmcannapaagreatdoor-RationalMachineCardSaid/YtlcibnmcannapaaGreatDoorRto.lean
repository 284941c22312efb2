/-
  The contract of the reference's ToInt.
-/
import Derived.Test.YtlcibnmcannapaaGreatDoorRmul
namespace Go.Proofs.YtlcibnmcannapaaGreatDoor
open Go Go.Proofs Go.RowKit Go.Lib

set_option maxRecDepth 100000 in
set_option maxHeartbeats 8000000 in
theorem toR_any (s : ByteArray) (hs : s.size ≤ 1099511627776) (w : World) :
    Calls Tryz.prog 37 #[.string s] w fun e w' => e = .returned (.tuple #[.int .i64 (toT s), .int .i64 (toZ s)]) ∧ Below w.heap.size w w' := by
  have va := fun W => valid_any s hs W
  have cmin := fun W => cmpR_any s minT hs (by decide) W
  have cmax := fun W => cmpR_any s maxT hs (by decide) W
  unfold toT toZ
  by_cases h1 : validB s = true
  · rw [h1] at va
    obtain ⟨f1, g1⟩ := text_valid h1
    have hc1 : cmpB s minT = if numB s < -9223372036854775808 then -1 else if -9223372036854775808 < numB s then 1 else 0 := by
      unfold cmpB; rw [h1, minT_valid.1, minT_valid.2]; rfl
    have hc2 : cmpB s maxT = if numB s < 9223372036854775807 then -1 else if 9223372036854775807 < numB s then 1 else 0 := by
      unfold cmpB; rw [h1, maxT_valid.1, maxT_valid.2]; rfl
    have hfm : fitM s = decide (-9223372036854775808 ≤ numB s ∧ numB s ≤ 9223372036854775807) := by unfold fitM; rw [h1, Bool.true_and]
    rw [hfm]
    obtain ⟨x, hx⟩ : ∃ x, numB s = x := ⟨_, rfl⟩
    rw [hx] at f1 g1 hc1 hc2 ⊢
    by_cases hlo : x < -9223372036854775808
    · rw [if_pos hlo] at hc1
      rw [hc1] at cmin
      rw [decide_eq_false (by omega), if_neg (by simp), if_neg (by simp)]
      have VA := Lib.hid va
      have CMIN := Lib.hid (show ∀ W, Calls Tryz.prog 53 #[.string s, .string ⟨#[45, 57, 50, 50, 51, 51, 55, 50, 48, 51, 54, 56, 53, 52, 55, 55, 53, 56, 48, 56]⟩] W _ from cmin)
      clear va cmin cmax hc1 hc2 hfm hx f1 g1 h1 hlo
      go_enter Tryz.func37, Tryz.ntmps37
      go_wp2_with fail
      refine (VA.out _).mono ?_
      rintro e w1 ⟨rfl, rfl⟩
      go_wp2_with fail
      refine (CMIN.out _).mono ?_
      rintro e w2 ⟨rfl, b2⟩
      go_wp2
      go_ret2
      exact ⟨rfl, b2⟩
    · have hz1 : ∃ z : Int, cmpB s minT = z ∧ ¬ z < 0 := ⟨_, rfl, by rw [hc1, if_neg hlo]; split <;> omega⟩
      obtain ⟨z1, hz1, hz1n⟩ := hz1
      rw [hz1] at cmin
      by_cases hhi : 9223372036854775807 < x
      · rw [if_neg (by omega), if_pos hhi] at hc2
        rw [hc2] at cmax
        rw [decide_eq_false (by omega), if_neg (by simp), if_neg (by simp)]
        have VA := Lib.hid va
        have CMIN := Lib.hid (show ∀ W, Calls Tryz.prog 53 #[.string s, .string ⟨#[45, 57, 50, 50, 51, 51, 55, 50, 48, 51, 54, 56, 53, 52, 55, 55, 53, 56, 48, 56]⟩] W _ from cmin)
        have CMAX := Lib.hid (show ∀ W, Calls Tryz.prog 53 #[.string s, .string ⟨#[57, 50, 50, 51, 51, 55, 50, 48, 51, 54, 56, 53, 52, 55, 55, 53, 56, 48, 55]⟩] W _ from cmax)
        clear va cmin cmax hc1 hc2 hfm hx f1 g1 h1 hlo hhi hz1
        go_enter Tryz.func37, Tryz.ntmps37
        go_wp2_with fail
        refine (VA.out _).mono ?_
        rintro e w1 ⟨rfl, rfl⟩
        go_wp2_with fail
        refine (CMIN.out _).mono ?_
        rintro e w2 ⟨rfl, b2⟩
        go_wp2_with fail
        refine (CMAX.out _).mono ?_
        rintro e w3 ⟨rfl, b3⟩
        go_wp2
        go_ret2
        exact ⟨rfl, b2.trans (b3.mono b2.size)⟩
      · have hz2 : ∃ z : Int, cmpB s maxT = z ∧ ¬ 0 < z := ⟨_, rfl, by rw [hc2]; split <;> (try split) <;> omega⟩
        obtain ⟨z2, hz2, hz2n⟩ := hz2
        rw [hz2] at cmax
        rw [decide_eq_true (by omega), if_pos rfl, if_pos rfl]
        obtain ⟨N, hN⟩ : ∃ N, x.natAbs = N := ⟨_, rfl⟩
        have hNf : N < 10 ^ 200 := by rw [← hN]; exact f1
        have hv := (textN_plain hNf).2
        have hdg : IsDig (digT (textN N)) := digT_dig (textN_dig N)
        have hget := fun j q hq hj => textN_digT N j q hq hj
        have hbs : bytesL s = (if x < 0 then [45] else []) ++ textN N := by rw [g1, bytesL_textI, hN]
        have hlen : (digT (textN N)).length = (textN N).length := by simp [digT]
        obtain ⟨l, hl⟩ : ∃ l, digT (textN N) = l := ⟨_, rfl⟩
        rw [hl] at hv hdg hget hlen
        obtain ⟨q, hq⟩ : ∃ q, l.length = q := ⟨_, rfl⟩
        have hgq := fun j (hj : j < q) => hget j q hq hj
        rw [hq] at hlen
        have hne := textN_ne_nil N
        have hq0 : 0 < q := by rw [hlen]; exact List.length_pos_iff.2 hne
        have VA := Lib.hid va
        have CMIN := Lib.hid (show ∀ W, Calls Tryz.prog 53 #[.string s, .string ⟨#[45, 57, 50, 50, 51, 51, 55, 50, 48, 51, 54, 56, 53, 52, 55, 55, 53, 56, 48, 56]⟩] W _ from cmin)
        have CMAX := Lib.hid (show ∀ W, Calls Tryz.prog 53 #[.string s, .string ⟨#[57, 50, 50, 51, 51, 55, 50, 48, 51, 54, 56, 53, 52, 55, 55, 53, 56, 48, 55]⟩] W _ from cmax)
        by_cases hx0 : x < 0
        · rw [if_pos hx0] at hbs
          have hss : s.size = q + 1 := by rw [← bytesL_length, hbs, List.length_append]; simp; omega
          have hsz : (s.size : Int) = (q : Int) + 1 := by omega
          have hch : ∀ k (hk : k < s.size), 1 ≤ k → (s[k]'hk).toNat = 48 + l.getD (q - 1 - (k - 1)) 0 := fun k hk hk1 => by
            rw [← bytesL_get s k hk]
            have h2 : (bytesL s)[k]'(by rw [bytesL_length]; exact hk) = (textN N).getD (k - 1) 0 := by
              simp only [hbs]
              rw [List.getElem_append_right (by simp; omega), List.getD_eq_getElem?_getD, List.getElem?_eq_getElem (by omega)]
              simp
            rw [h2]
            exact hgq _ (by omega)
          have h0s : 0 < s.size := by omega
          have h45 : (s[0]'h0s).toNat = 45 := by
            rw [← bytesL_get s 0 h0s]
            simp only [hbs]
            rfl
          have hsg : (((s[0]'h0s).toNat : Int) == 45) = true := by rw [h45]; rfl
          have hN63 : N ≤ 9223372036854775808 := by omega
          have hxN : x = -(N : Int) := by omega
          rw [hxN]
          have HCH := Lib.hid hch; have HV := Lib.hid hv; have HDG := Lib.hid hdg; have HQ := Lib.hid hq
          clear va cmin cmax hc1 hc2 hfm f1 g1 h1 hlo hhi hz1 hz2 hN hNf hv hdg hget hbs hlen hl hgq hne hq hch hx0 hxN hx h45
          go_enter Tryz.func37, Tryz.ntmps37
          go_wp2_with fail
          refine (VA.out _).mono ?_
          rintro e w1 ⟨rfl, rfl⟩
          go_wp2_with fail
          refine (CMIN.out _).mono ?_
          rintro e w2 ⟨rfl, b2⟩
          go_wp2_with fail
          refine (CMAX.out _).mono ?_
          rintro e w3 ⟨rfl, b3⟩
          have B3 := Lib.hid (b2.trans (b3.mono b2.size))
          clear b2 b3 CMIN CMAX VA
          go_wp2_with fail
          go_loop [4, 5] (fun v i => ∃ k : Nat, k ≤ s.size ∧ i = .int .i64 k ∧ v = .int .i64 (-((valD (l.drop (q - (k - 1))) : Nat) : Int))) (fun _ i => s.size - (RowKit.intOf i).toNat)
          case atStart => exact ⟨0, Nat.zero_le _, rfl, by rw [Nat.zero_sub, Nat.sub_zero, List.drop_of_length_le (by rw [HQ.out]; omega)]; rfl⟩
          case round =>
            obtain ⟨k, hk, rfl, rfl⟩ := hrel
            by_cases hlt : k < s.size
            · have hk1 : (k : Int) < (s.size : Int) := by omega
              have hix := fun w => index_str s k hlt w
              by_cases hk0 : k = 0
              · subst hk0
                rw [show (s[0]'hlt).toNat = 45 from by have := hsg; rw [beq_iff_eq] at this; omega] at hix
                go_wp2
                go_round
                case rel => exact ⟨1, by omega, by go_num, rfl⟩
                case measure => simp [RowKit.intOf]; omega
              · have hc := HCH.out k hlt (by omega)
                have hvd := valD_drop l (q - 1 - (k - 1)) (by rw [HQ.out]; omega)
                rw [show q - 1 - (k - 1) + 1 = q - (k - 1) by omega] at hvd
                have hle : valD (l.drop (q - 1 - (k - 1))) ≤ N := by
                  have h := valD_append (l.take (q - 1 - (k - 1))) (l.drop (q - 1 - (k - 1)))
                  rw [List.take_append_drop, HV.out] at h
                  have := Nat.le_mul_of_pos_left (valD (l.drop (q - 1 - (k - 1)))) (show 0 < 10 ^ (l.take (q - 1 - (k - 1))).length from Nat.pow_pos (by decide))
                  omega
                have hd10 := getD_dig HDG.out (q - 1 - (k - 1))
                obtain ⟨d, hd⟩ : ∃ d, l.getD (q - 1 - (k - 1)) 0 = d := ⟨_, rfl⟩
                rw [hd] at hc hvd hd10
                rw [hc] at hix
                rw [hvd] at hle
                have hnx : valD (l.drop (q - (k + 1 - 1))) = d + 10 * valD (l.drop (q - (k - 1))) := by rw [← hvd]; congr 2; omega
                obtain ⟨V, hV⟩ : ∃ V, valD (l.drop (q - (k - 1))) = V := ⟨_, rfl⟩
                rw [hV] at hle hnx ⊢
                obtain ⟨y, hy⟩ : ∃ y, 48 + d = y := ⟨_, rfl⟩
                rw [hy] at hix
                have hy1 : ((y : Int) == 45) = false := by rw [beq_eq_false_iff_ne]; omega
                have hw1 : IntKind.u8.wrap ((y : Int) - 48) = (d : Int) := by rw [IntKind.wrap_u8]; omega
                have hw2 : ((y : Int) - 48) % 256 = (d : Int) := by omega
                have hVi : 10 * (V : Int) + (d : Int) ≤ 9223372036854775808 := by omega
                have hp1 : IntKind.i64.wrap (10 * (V : Int)) = 10 * (V : Int) := IntWalk.i64_in _ (by omega)
                have hm1 : IntKind.i64.wrap (10 * -(V : Int)) = 10 * -(V : Int) := IntWalk.i64_in _ (by omega)
                have hm2 : IntKind.i64.wrap (-(10 * (V : Int))) = -(10 * (V : Int)) := IntWalk.i64_in _ (by omega)
                have hm3 : IntKind.i64.wrap (10 * -(V : Int) + -(d : Int)) = 10 * -(V : Int) + -(d : Int) := IntWalk.i64_in _ (by omega)
                have hm4 : IntKind.i64.wrap (-(10 * (V : Int)) + -(d : Int)) = -(10 * (V : Int)) + -(d : Int) := IntWalk.i64_in _ (by omega)
                have HNX := Lib.hid hnx
                clear hnx hvd hd hV hy hc
                go_wp2
                go_round
                case rel => exact ⟨k + 1, by omega, by go_num, by rw [HNX.out]; go_num⟩
                case measure => simp [RowKit.intOf]; omega
            · have hk1 : ¬ (k : Int) < (s.size : Int) := by omega
              have hkk : q - (k - 1) = 0 := by omega
              rw [hkk, List.drop_zero, HV.out]
              go_wp2
              go_ret2
              exact ⟨by first | rfl | simp, B3.out⟩
        · rw [if_neg hx0, List.nil_append] at hbs
          have hss : s.size = q := by rw [← bytesL_length, hbs]; exact hlen.symm
          have hsz : (s.size : Int) = (q : Int) := by omega
          have hch : ∀ k (hk : k < s.size), (s[k]'hk).toNat = 48 + l.getD (q - 1 - (k - 0)) 0 := fun k hk => by
            rw [← bytesL_get s k hk]
            have h2 : (bytesL s)[k]'(by rw [bytesL_length]; exact hk) = (textN N).getD k 0 := by
              simp only [hbs]
              rw [List.getD_eq_getElem?_getD, List.getElem?_eq_getElem (by omega)]
              simp
            rw [h2]
            exact hgq _ (by omega)
          have h0s : 0 < s.size := by omega
          have hsg : (((s[0]'h0s).toNat : Int) == 45) = false := by
            rw [beq_eq_false_iff_ne, hch 0 h0s]; omega
          have hN63 : N ≤ 9223372036854775807 := by omega
          have hxN : x = (N : Int) := by omega
          rw [hxN]
          have HCH := Lib.hid hch; have HV := Lib.hid hv; have HDG := Lib.hid hdg; have HQ := Lib.hid hq
          clear va cmin cmax hc1 hc2 hfm f1 g1 h1 hlo hhi hz1 hz2 hN hNf hv hdg hget hbs hlen hl hgq hne hq hch hx0 hxN hx
          go_enter Tryz.func37, Tryz.ntmps37
          go_wp2_with fail
          refine (VA.out _).mono ?_
          rintro e w1 ⟨rfl, rfl⟩
          go_wp2_with fail
          refine (CMIN.out _).mono ?_
          rintro e w2 ⟨rfl, b2⟩
          go_wp2_with fail
          refine (CMAX.out _).mono ?_
          rintro e w3 ⟨rfl, b3⟩
          have B3 := Lib.hid (b2.trans (b3.mono b2.size))
          clear b2 b3 CMIN CMAX VA
          go_wp2_with fail
          go_loop [4, 5] (fun v i => ∃ k : Nat, k ≤ s.size ∧ i = .int .i64 k ∧ v = .int .i64 (((valD (l.drop (q - (k - 0))) : Nat) : Int))) (fun _ i => s.size - (RowKit.intOf i).toNat)
          case atStart => exact ⟨0, Nat.zero_le _, rfl, by rw [Nat.zero_sub, Nat.sub_zero, List.drop_of_length_le (by rw [HQ.out]; omega)]; rfl⟩
          case round =>
            obtain ⟨k, hk, rfl, rfl⟩ := hrel
            by_cases hlt : k < s.size
            · have hk1 : (k : Int) < (s.size : Int) := by omega
              have hix := fun w => index_str s k hlt w
              have hc := HCH.out k hlt
              have hvd := valD_drop l (q - 1 - (k - 0)) (by rw [HQ.out]; omega)
              rw [show q - 1 - (k - 0) + 1 = q - (k - 0) by omega] at hvd
              have hle : valD (l.drop (q - 1 - (k - 0))) ≤ N := by
                have h := valD_append (l.take (q - 1 - (k - 0))) (l.drop (q - 1 - (k - 0)))
                rw [List.take_append_drop, HV.out] at h
                have := Nat.le_mul_of_pos_left (valD (l.drop (q - 1 - (k - 0)))) (show 0 < 10 ^ (l.take (q - 1 - (k - 0))).length from Nat.pow_pos (by decide))
                omega
              have hd10 := getD_dig HDG.out (q - 1 - (k - 0))
              obtain ⟨d, hd⟩ : ∃ d, l.getD (q - 1 - (k - 0)) 0 = d := ⟨_, rfl⟩
              rw [hd] at hc hvd hd10
              rw [hc] at hix
              rw [hvd] at hle
              have hnx : valD (l.drop (q - (k + 1 - 0))) = d + 10 * valD (l.drop (q - (k - 0))) := by rw [← hvd]; congr 2; omega
              obtain ⟨V, hV⟩ : ∃ V, valD (l.drop (q - (k - 0))) = V := ⟨_, rfl⟩
              rw [hV] at hle hnx ⊢
              obtain ⟨y, hy⟩ : ∃ y, 48 + d = y := ⟨_, rfl⟩
              rw [hy] at hix
              have hy1 : ((y : Int) == 45) = false := by rw [beq_eq_false_iff_ne]; omega
              have hw1 : IntKind.u8.wrap ((y : Int) - 48) = (d : Int) := by rw [IntKind.wrap_u8]; omega
              have hw2 : ((y : Int) - 48) % 256 = (d : Int) := by omega
              have hVi : 10 * (V : Int) + (d : Int) ≤ 9223372036854775807 := by omega
              have hp1 : IntKind.i64.wrap (10 * (V : Int)) = 10 * (V : Int) := IntWalk.i64_in _ (by omega)
              have hp2 : IntKind.i64.wrap (10 * (V : Int) + (d : Int)) = 10 * (V : Int) + (d : Int) := IntWalk.i64_in _ (by omega)
              have hm1 : IntKind.i64.wrap (10 * -(V : Int)) = 10 * -(V : Int) := IntWalk.i64_in _ (by omega)
              have hm2 : IntKind.i64.wrap (-(10 * (V : Int))) = -(10 * (V : Int)) := IntWalk.i64_in _ (by omega)
              have hm3 : IntKind.i64.wrap (10 * -(V : Int) + -(d : Int)) = 10 * -(V : Int) + -(d : Int) := IntWalk.i64_in _ (by omega)
              have hm4 : IntKind.i64.wrap (-(10 * (V : Int)) + -(d : Int)) = -(10 * (V : Int)) + -(d : Int) := IntWalk.i64_in _ (by omega)
              have HNX := Lib.hid hnx
              clear hnx hvd hd hV hy hc
              go_wp2
              go_round
              case rel => exact ⟨k + 1, by omega, by go_num, by rw [HNX.out]; go_num⟩
              case measure => simp [RowKit.intOf]; omega
            · have hk1 : ¬ (k : Int) < (s.size : Int) := by omega
              have hkk : q - (k - 0) = 0 := by omega
              rw [hkk, List.drop_zero, HV.out]
              go_wp2
              go_ret2
              exact ⟨by first | rfl | simp, B3.out⟩
  · have h1' : validB s = false := by simpa using h1
    rw [h1'] at va
    have hfm : fitM s = false := by unfold fitM; rw [h1']; rfl
    rw [hfm, if_neg (by simp), if_neg (by simp)]
    have VA := Lib.hid va
    clear va h1 h1' hfm cmin cmax
    go_enter Tryz.func37, Tryz.ntmps37
    go_wp2_with fail
    refine (VA.out _).mono ?_
    rintro e w1 ⟨rfl, rfl⟩
    go_wp2
    go_ret2
    exact ⟨rfl, Below.refl _ _⟩
end Go.Proofs.YtlcibnmcannapaaGreatDoor
