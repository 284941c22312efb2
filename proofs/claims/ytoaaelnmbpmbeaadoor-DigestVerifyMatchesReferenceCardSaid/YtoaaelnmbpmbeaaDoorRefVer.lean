/-
  The contracts of the reference's Digests, value and both.
-/
import Derived.Test.YtoaaelnmbpmbeaaDoorLawTree
namespace Go.Proofs.YtoaaelnmbpmbeaaDoor
open Go Go.Proofs Go.RowKit Go.Lib

set_option maxHeartbeats 1000000 in
theorem digR_any (l : List ByteArray) (ad : Option Addr) (cap : Nat) (w : World) (h : Holds w ad cap l) (hM : Sm l) :
    Calls Tryd.prog 50 #[.slice ad l.length cap] w fun e w' => e = .returned (.bool (allDig l)) ∧ w = w' := by
  have hlen : l.length ≤ 1099511627776 := h.2.1
  have H := Lib.hid h; have HM := Lib.hid hM
  clear h hM
  obtain ⟨r, hr⟩ : ∃ r, allDig l = r := ⟨_, rfl⟩
  rw [hr]
  have HR := Lib.hid hr
  clear hr
  go_enter Tryd.func50, Tryd.ntmps50
  go_wp2
  go_loop [3] (fun i => ∃ k : Nat, k ≤ l.length ∧ i = .int .i64 k ∧ Hid (allDig (l.take k) = true)) (fun i => l.length - (RowKit.intOf i).toNat)
  case atStart => exact ⟨0, Nat.zero_le _, rfl, (by simp [allDig] : allDig (l.take 0) = true)⟩
  case round =>
    obtain ⟨k, hk, rfl, hd⟩ := hrel
    by_cases hlt : k < l.length
    · have hlt2 : (k : Int) < (l.length : Int) := by omega
      obtain ⟨b, o, rfl, _, hS⟩ := H.out.at (by omega)
      have hcell := hS k hlt
      have hsz := HM.out l[k] (List.getElem_mem _)
      have ht := allDig_take l k hlt
      have hf := allDig_false l k hlt
      obtain ⟨s, hs⟩ : ∃ s, l[k] = s := ⟨_, rfl⟩
      rw [hs] at hcell ht hf hsz
      have HT := Lib.hid ht; have HF := Lib.hid hf; have HS := Lib.hid hS
      clear ht hf hs hS
      by_cases h32 : s.size = 32
      · have h32a : ((s.size : Int) == 32) = true := by rw [beq_iff_eq]; omega
        have h32b : ((s.size : Int) != 32) = false := by rw [bne_eq_false_iff_eq]; omega
        have H32 := Lib.hid h32
        clear h32
        go_wp2
        go_round
        case rel => exact ⟨k + 1, by omega, by go_num, (by rw [HT.out, hd.out, decide_eq_true H32.out]; rfl : allDig (l.take (k + 1)) = true)⟩
        case measure => simp [RowKit.intOf]; omega
      · have h32a : ((s.size : Int) == 32) = false := by rw [beq_eq_false_iff_ne]; omega
        have h32b : ((s.size : Int) != 32) = true := by rw [bne_iff_ne]; omega
        have hrf : r = false := by rw [← HR.out, HF.out h32]
        have HRF := Lib.hid hrf
        clear h32 hrf
        go_wp2
        go_ret
        exact ⟨ret_bool HRF.out.symm, rfl⟩
    · have hk2 : k = l.length := by omega
      have hrt : r = true := by rw [← HR.out, ← hd.out, hk2, List.take_length]
      have HRT := Lib.hid hrt
      clear hrt hk2
      go_wp2
      go_ret
      exact ⟨ret_bool HRT.out.symm, rfl⟩

set_option maxRecDepth 100000 in
set_option maxHeartbeats 2000000 in
theorem valueR_any : ∀ (N : Nat) (p : List ByteArray) (n i : Nat) (s : ByteArray) (ad : Option Addr) (cap : Nat) (w : World), p.length ≤ N → i < n → n ≤ 9223372036854775807 → s.size ≤ 1000 → Holds w ad cap p → Sm p →
    Calls Tryd.prog 51 #[.int .i64 (n : Nat), .int .i64 (i : Nat), .string s, .slice ad p.length cap] w (ValPost w n i s p) := by
  intro N
  induction N with
  | zero =>
    intro p n i s ad cap w hN hi hn hs hH hM
    have hp : p = [] := List.eq_nil_of_length_eq_zero (by omega)
    subst hp
    have hv := valF_nil n i s
    by_cases h1 : n = 1
    · rw [if_pos h1] at hv
      have C := Lib.hid (leafR_any s (by omega) w); have HV := Lib.hid hv
      have hz := leafF_size s
      obtain ⟨v, hve⟩ : ∃ v, leafF s = v := ⟨_, rfl⟩
      rw [hve] at C HV hz
      subst h1
      clear hv hve hH hM
      go_enter Tryd.func51, Tryd.ntmps51
      go_wp2_with fail
      refine C.out.mono ?_
      rintro e w' ⟨rfl, hb⟩
      go_wp2
      go_ret2
      exact ⟨v, true, rfl, HV.out, by omega, hb⟩
    · rw [if_neg h1] at hv
      have hn1 : ((n : Int) == 1) = false := by rw [beq_eq_false_iff_ne]; omega
      have HV := Lib.hid hv
      clear hv hH hM h1
      go_enter Tryd.func51, Tryd.ntmps51
      go_wp2_with fail
      go_ret2
      exact ⟨ByteArray.empty, false, rfl, HV.out, by decide, Below.refl _ _⟩
  | succ N ih =>
    intro p n i s ad cap w hN hi hn hs hH hM
    by_cases hp : p.length = 0
    · exact ih p n i s ad cap w (by omega) hi hn hs hH hM
    · obtain ⟨q, x, rfl, hq⟩ := last_of (l := p) (by omega)
      obtain ⟨b, o, rfl, hlt, hS⟩ := hH.at (by omega)
      have hcap := hH.2.1
      have hlc := hH.1
      obtain ⟨m, hm⟩ : ∃ m, q.length = m := ⟨_, rfl⟩
      have hpl : (q ++ [x]).length = m + 1 := by simp [hm]
      have hcell : w.cell? ⟨b, o + m, none⟩ = some (.string x) := by
        have := hS m (by omega)
        simpa [← hm] using this
      have hHq : Holds w (some ⟨b, o, none⟩) cap q := ⟨by omega, by omega, .inr ⟨b, o, rfl, hlt, by have := hS.take m; rwa [← hm, List.take_left] at this⟩⟩
      have hMq : Sm q := fun s hs => hM s (by simp [hs])
      have hx := hM x (by simp)
      have hv := valF_snoc n i s q x
      rw [hpl] at hlc hN hcap ⊢
      have hsl := fun w => slice_lo b o (m + 1) cap m (by omega) w
      by_cases h1 : n = 1
      · rw [if_pos (by omega)] at hv
        have hn1 : ((n : Int) == 1) = true := by rw [beq_iff_eq]; omega
        have HV := Lib.hid hv
        have C := Lib.hid (leafR_any s (by omega) w)
        have hz := leafF_size s
        obtain ⟨v, hve⟩ : ∃ v, leafF s = v := ⟨_, rfl⟩
        rw [hve] at C hz
        clear hv hH hM hS hHq hMq ih h1 hm hpl hq hve
        go_enter Tryd.func51, Tryd.ntmps51
        go_wp2_with fail
        refine C.out.mono ?_
        rintro e w' ⟨rfl, hb⟩
        go_wp2
        go_ret2
        exact ⟨v, false, rfl, HV.out, by omega, hb⟩
      · rw [if_neg (by omega)] at hv
        have hn1 : ((n : Int) == 1) = false := by rw [beq_eq_false_iff_ne]; omega
        have hk := splitN_lt (n := n) (by omega)
        have hp1 := splitN_pos n
        have csp := leftR_any n (by omega) hn
        obtain ⟨k, ek⟩ : ∃ k, splitN n = k := ⟨_, rfl⟩
        rw [ek] at hv hk hp1 csp
        have CS := Lib.hid csp
        clear csp ek
        by_cases hik : i < k
        · rw [if_pos hik] at hv
          have hik2 : (i : Int) < (k : Int) := by omega
          have c := ih q k i s (some ⟨b, o, none⟩) cap w (by omega) hik (by omega) hs hHq hMq
          rw [hm] at c
          have cn := fun v W (hv : v.size ≤ 32) (h : Below w.heap.size w W) => grown_call (nodeR_any v x (by omega) hx W) h h.size
          have hcb := fun W (h : Below w.heap.size w W) => (h.cell (p := ⟨b, o + m, none⟩) hlt).trans hcell
          have HV := Lib.hid hv; have C := Lib.hid c; have CN := Lib.hid cn; have HCB := Lib.hid hcb
          clear hv c cn hcb hH hM hS hHq hMq ih h1 hm hpl hq hcell
          go_enter Tryd.func51, Tryd.ntmps51
          go_wp2_with fail
          refine (CS.out _).mono ?_
          rintro e w' ⟨rfl, rfl⟩
          go_wp2_with fail
          refine C.out.mono ?_
          rintro e W1 ⟨v, ok, rfl, hval, hvs, hb1⟩
          have hcell := HCB.out W1 hb1
          have HVAL := Lib.hid hval
          clear hval
          go_wp2_with fail
          refine (CN.out v W1 hvs hb1).mono ?_
          rintro e W2 ⟨rfl, hb2⟩
          go_wp2
          go_ret2
          exact ⟨_, ok, rfl, by rw [HV.out, HVAL.out]; cases ok <;> rfl, by rw [nodeF_size]; decide, hb2⟩
        · rw [if_neg hik] at hv
          have hik2 : ¬ (i : Int) < (k : Int) := by omega
          have c := ih q (n - k) (i - k) s (some ⟨b, o, none⟩) cap w (by omega) (by omega) (by omega) hs hHq hMq
          rw [hm, show ((n - k : Nat) : Int) = (n : Int) - (k : Int) by omega, show ((i - k : Nat) : Int) = (i : Int) - (k : Int) by omega] at c
          have cn := fun v W (hv : v.size ≤ 32) (h : Below w.heap.size w W) => grown_call (nodeR_any x v hx (by omega) W) h h.size
          have hcb := fun W (h : Below w.heap.size w W) => (h.cell (p := ⟨b, o + m, none⟩) hlt).trans hcell
          have HV := Lib.hid hv; have C := Lib.hid c; have CN := Lib.hid cn; have HCB := Lib.hid hcb
          clear hv c cn hcb hH hM hS hHq hMq ih h1 hm hpl hq hcell
          go_enter Tryd.func51, Tryd.ntmps51
          go_wp2_with fail
          refine (CS.out _).mono ?_
          rintro e w' ⟨rfl, rfl⟩
          go_wp2_with fail
          refine C.out.mono ?_
          rintro e W1 ⟨v, ok, rfl, hval, hvs, hb1⟩
          have hcell := HCB.out W1 hb1
          have HVAL := Lib.hid hval
          clear hval
          go_wp2_with fail
          refine (CN.out v W1 hvs hb1).mono ?_
          rintro e W2 ⟨rfl, hb2⟩
          go_wp2
          go_ret2
          exact ⟨_, ok, rfl, by rw [HV.out, HVAL.out]; cases ok <;> rfl, by rw [nodeF_size]; decide, hb2⟩

theorem atS (g o n c i : Nat) (z : Int) (hz : z = (i : Nat)) (hi : i < n) (w : World) :
    (Instr.indexAt 26 (.slice (some ⟨g, o, none⟩) n c) (.int .i64 z)).run Tryd.prog w = .ok (.pointer (some ⟨g, o + i, none⟩)) w := by
  subst hz
  rw [run_indexAt_slice w 26 _ _ _ _ _ strs_elem, if_pos (by omega)]
  simp [strs_size, add_at, Result.andThen]
/-- What both leaves. -/
def BothPost (w : World) (old : ByteArray) (m n : Nat) (wh : Bool) (p : List ByteArray) (e : Ending) (w' : World) : Prop :=
  ∃ (a b : ByteArray) (ok : Bool), e = .returned (.tuple #[.string a, .string b, .bool ok]) ∧ twoF old m n wh p = (if ok then some (a, b) else none) ∧ a.size ≤ 1000000 ∧ b.size ≤ 1000000 ∧ Below w.heap.size w w'

set_option maxRecDepth 100000 in
set_option maxHeartbeats 4000000 in
theorem bothR_any : ∀ (N : Nat) (p : List ByteArray) (old : ByteArray) (m n : Nat) (wh : Bool) (ad : Option Addr) (cap : Nat) (w : World), p.length ≤ N → 1 ≤ m → m ≤ n → n ≤ 9223372036854775807 → old.size ≤ 1000000 → Holds w ad cap p → Sm p →
    Calls Tryd.prog 53 #[.string old, .int .i64 (m : Nat), .int .i64 (n : Nat), .slice ad p.length cap, .bool wh] w (BothPost w old m n wh p) := by
  intro N
  induction N with
  | zero =>
    intro p old m n wh ad cap w hN hm hmn hn hs hH hM
    have hp : p = [] := List.eq_nil_of_length_eq_zero (by omega)
    subst hp
    by_cases h1 : m = n
    · subst h1
      cases wh with
      | true =>
        have HV := Lib.hid (twoF_whole_nil old m)
        clear hH hM
        go_enter Tryd.func53, Tryd.ntmps53
        go_wp2_with fail
        go_ret3
        exact ⟨old, old, true, rfl, HV.out, hs, hs, Below.refl _ _⟩
      | false =>
        have HV := Lib.hid (twoF_self_nil old m)
        clear hH hM
        go_enter Tryd.func53, Tryd.ntmps53
        go_wp2_with fail
        go_ret3
        exact ⟨ByteArray.empty, ByteArray.empty, false, rfl, HV.out, by decide, by decide, Below.refl _ _⟩
    · have HV := Lib.hid (twoF_nil old h1 wh)
      have hmn1 : ((m : Int) == (n : Int)) = false := by rw [beq_eq_false_iff_ne]; omega
      clear hH hM h1
      go_enter Tryd.func53, Tryd.ntmps53
      go_wp2_with fail
      go_ret3
      exact ⟨ByteArray.empty, ByteArray.empty, false, rfl, HV.out, by decide, by decide, Below.refl _ _⟩
  | succ N ih =>
    intro p old m n wh ad cap w hN hm hmn hn hs hH hM
    by_cases hp : p.length = 0
    · exact ih p old m n wh ad cap w (by omega) hm hmn hn hs hH hM
    · obtain ⟨q, x, rfl, hq⟩ := last_of (l := p) (by omega)
      obtain ⟨b, o, rfl, hlt, hS⟩ := hH.at (by omega)
      have hcap := hH.2.1
      have hlc := hH.1
      obtain ⟨u, hu⟩ : ∃ u, q.length = u := ⟨_, rfl⟩
      have hpl : (q ++ [x]).length = u + 1 := by simp [hu]
      have hcell : w.cell? ⟨b, o + u, none⟩ = some (.string x) := by
        have := hS u (by omega)
        simpa [← hu] using this
      have hHq : Holds w (some ⟨b, o, none⟩) cap q := ⟨by omega, by omega, .inr ⟨b, o, rfl, hlt, by have := hS.take u; rwa [← hu, List.take_left] at this⟩⟩
      have hMq : Sm q := fun s hs => hM s (by simp [hs])
      have hx := hM x (by simp)
      rw [hpl] at hlc hN hcap ⊢
      have hsl := fun w => slice_lo b o (u + 1) cap u (by omega) w
      by_cases h1 : m = n
      · subst h1
        cases wh with
        | true =>
          have HV := Lib.hid (twoF_whole_snoc old m q x)
          clear hH hM hS hHq hMq ih hu hpl hq
          go_enter Tryd.func53, Tryd.ntmps53
          go_wp2_with fail
          go_ret3
          exact ⟨old, old, false, rfl, HV.out, hs, hs, Below.refl _ _⟩
        | false =>
          by_cases hu0 : u = 0
          · have hq0 : q = [] := List.eq_nil_of_length_eq_zero (by omega)
            have hv1 : twoF old m m false (q ++ [x]) = some (x, x) := by rw [hq0]; exact twoF_self_one old m x
            have HV := Lib.hid hv1
            have hu1 : ((u : Int) != 0) = false := by rw [bne_eq_false_iff_eq]; omega
            subst hu0
            rw [Nat.add_zero] at hcell
            clear hH hM hS hHq hMq ih hpl hq0 hv1
            go_enter Tryd.func53, Tryd.ntmps53
            go_wp2_with fail
            go_quiet (fail)
            go_wp2
            go_ret3
            exact ⟨x, x, true, rfl, HV.out, hx, hx, below_drewN (Below.refl _ _) _⟩
          · have HV := Lib.hid (twoF_self_more old m q x (by omega))
            have hu1 : ((u : Int) != 0) = true := by rw [bne_iff_ne]; omega
            have hu2 : 0 < u := by omega
            clear hH hM hS hHq hMq ih hu hpl hq
            go_enter Tryd.func53, Tryd.ntmps53
            go_wp2_with fail
            go_ret3
            exact ⟨ByteArray.empty, ByteArray.empty, false, rfl, HV.out, by decide, by decide, Below.refl _ _⟩
      · have hv := twoF_snoc old h1 wh q x
        have hmn1 : ((m : Int) == (n : Int)) = false := by rw [beq_eq_false_iff_ne]; omega
        have hk := splitN_lt (n := n) (by omega)
        have hp1 := splitN_pos n
        have csp := leftR_any n (by omega) hn
        obtain ⟨k, ek⟩ : ∃ k, splitN n = k := ⟨_, rfl⟩
        rw [ek] at hv hk hp1 csp
        have CS := Lib.hid csp
        clear csp ek
        by_cases hik : m ≤ k
        · rw [if_pos hik] at hv
          have hik2 : (m : Int) ≤ (k : Int) := by omega
          have c := ih q old m k wh (some ⟨b, o, none⟩) cap w (by omega) hm hik (by omega) hs hHq hMq
          rw [hu] at c
          have cn := fun v W (hv : v.size ≤ 1000000) (h : Below w.heap.size w W) => grown_call (nodeR_any v x hv hx W) h h.size
          have HV := Lib.hid hv; have C := Lib.hid c; have CN := Lib.hid cn; have HCB := Lib.hid (fun W (h : Below w.heap.size w W) => (h.cell (p := ⟨b, o + u, none⟩) hlt).trans hcell)
          clear hv c cn hH hM hS hHq hMq ih h1 hu hpl hq
          go_enter Tryd.func53, Tryd.ntmps53
          go_wp2_with fail
          refine (CS.out _).mono ?_
          rintro e w' ⟨rfl, rfl⟩
          go_wp2_with fail
          refine C.out.mono ?_
          rintro e W1 ⟨a1, b1, ok, rfl, hval, hs1, hs2, hb1⟩
          have HVAL := Lib.hid hval
          have hcell1 := HCB.out W1 hb1
          clear hval hcell
          go_wp2_with fail
          refine (CN.out b1 W1 hs2 hb1).mono ?_
          rintro e W2 ⟨rfl, hb2⟩
          go_wp2
          go_ret3
          exact ⟨a1, _, ok, rfl, by rw [HV.out, HVAL.out]; cases ok <;> rfl, hs1, by rw [nodeF_size]; decide, hb2⟩
        · rw [if_neg hik] at hv
          have hik2 : ¬ (m : Int) ≤ (k : Int) := by omega
          have c := ih q old (m - k) (n - k) false (some ⟨b, o, none⟩) cap w (by omega) (by omega) (by omega) (by omega) hs hHq hMq
          rw [hu, show ((n - k : Nat) : Int) = (n : Int) - (k : Int) by omega, show ((m - k : Nat) : Int) = (m : Int) - (k : Int) by omega] at c
          have cn := fun v W (hv : v.size ≤ 1000000) (h : Below w.heap.size w W) => grown_call (nodeR_any x v hx hv W) h h.size
          have HV := Lib.hid hv; have C := Lib.hid c; have CN := Lib.hid cn; have HCB := Lib.hid (fun W (h : Below w.heap.size w W) => (h.cell (p := ⟨b, o + u, none⟩) hlt).trans hcell)
          clear hv c cn hH hM hS hHq hMq ih h1 hu hpl hq
          go_enter Tryd.func53, Tryd.ntmps53
          go_wp2_with fail
          refine (CS.out _).mono ?_
          rintro e w' ⟨rfl, rfl⟩
          go_wp2_with fail
          refine C.out.mono ?_
          rintro e W1 ⟨a1, b1, ok, rfl, hval, hs1, hs2, hb1⟩
          have HVAL := Lib.hid hval
          clear hval
          have CA := Lib.hid (fun W h => CN.out a1 W hs1 h)
          have CB := Lib.hid (fun W h => CN.out b1 W hs2 h)
          have hat := fun w => atS b o (u + 1) cap u (u : Int) rfl (by omega) w
          have hui : (u : Int) < ((u + 1 : Nat) : Int) := by omega
          have hui2 : (u : Int) < (u : Int) + 1 := by omega
          clear CN hcell
          go_wp2_with fail
          go_region_held3 (fun W => W.cell? ⟨b, o + u, none⟩ = some (.string x))
            (first | exact HCB.out _ (below_same hb1 rfl rfl rfl rfl) | exact HCB.out _ (below_same hA rfl rfl rfl rfl) | exact HCB.out _ (below_same hB rfl rfl rfl rfl))
            (first | (go_at_call 18; (with_reducible refine (CA.out _ ?_).mono ?_); (first | exact below_same hB rfl rfl rfl rfl | exact below_same hb1 rfl rfl rfl rfl); rintro e WA ⟨rfl, hA⟩) | (go_at_call 18; (with_reducible refine (CB.out _ ?_).mono ?_); (first | exact below_same hA rfl rfl rfl rfl | exact below_same hb1 rfl rfl rfl rfl); rintro e WB ⟨rfl, hB⟩))
          all_goals (go_wp2; go_ret3; exact ⟨_, _, ok, rfl, by rw [HV.out, HVAL.out]; cases ok <;> rfl, by rw [nodeF_size]; decide, by rw [nodeF_size]; decide, by first | exact below_same hA rfl rfl rfl rfl | exact below_same hB rfl rfl rfl rfl⟩)
end Go.Proofs.YtoaaelnmbpmbeaaDoor
