/-
  The contracts of digest.areDigests, value and twoValues.
-/
import Derived.Test.YtoaaelnmbpmbeaaDoorRoot
namespace Go.Proofs.YtoaaelnmbpmbeaaDoor
open Go Go.Proofs Go.RowKit Go.Lib

/-- What a slice of strings holds. -/
def Holds (W : World) (ad : Option Addr) (cap : Nat) (l : List ByteArray) : Prop :=
  l.length ≤ cap ∧ l.length ≤ 1099511627776 ∧ (l = [] ∨ ∃ b o, ad = some ⟨b, o, none⟩ ∧ b < W.heap.size ∧ StrsAt W b o l)
theorem Holds.below {n : Nat} {W W' : World} {ad : Option Addr} {cap : Nat} {l : List ByteArray} (h : Holds W ad cap l) (hb : Below n W W') (hn : W.heap.size ≤ n) : Holds W' ad cap l := by
  obtain ⟨h1, h2, h3⟩ := h
  refine ⟨h1, h2, h3.imp id ?_⟩
  rintro ⟨b, o, rfl, hlt, hs⟩
  exact ⟨b, o, rfl, Nat.lt_of_lt_of_le hlt hb.size, hs.below hb (by omega)⟩
theorem Holds.nil (W : World) (ad : Option Addr) : Holds W ad 0 [] := ⟨Nat.le_refl _, by simp, .inl rfl⟩
theorem Holds.at {W : World} {ad : Option Addr} {cap : Nat} {l : List ByteArray} (h : Holds W ad cap l) (h0 : 0 < l.length) : ∃ b o, ad = some ⟨b, o, none⟩ ∧ b < W.heap.size ∧ StrsAt W b o l := by
  rcases h.2.2 with rfl | h
  · simp at h0
  · exact h

theorem allDig_take (l : List ByteArray) (k : Nat) (h : k < l.length) : allDig (l.take (k + 1)) = (allDig (l.take k) && decide ((l[k]).size = 32)) := by
  rw [List.take_succ_eq_append_getElem h]
  simp only [allDig, List.all_append, List.all_cons, List.all_nil, Bool.and_true]
  congr 1
theorem allDig_false (l : List ByteArray) (k : Nat) (h : k < l.length) (hs : ¬ (l[k]).size = 32) : allDig l = false := by
  unfold allDig
  rw [List.all_eq_false]
  exact ⟨l[k], List.getElem_mem _, by simpa using hs⟩

theorem ret_bool {a b : Bool} (h : a = b) : Ending.returned (.bool a) = .returned (.bool b) := by rw [h]
set_option maxHeartbeats 1000000 in
theorem dig_any (l : List ByteArray) (ad : Option Addr) (cap : Nat) (w : World) (h : Holds w ad cap l) (hM : Small l) :
    Calls Tryd.prog 48 #[.slice ad l.length cap] w fun e w' => e = .returned (.bool (allDig l)) ∧ w = w' := by
  have hlen : l.length ≤ 1099511627776 := h.2.1
  have H := Lib.hid h; have HM := Lib.hid hM
  clear h hM
  obtain ⟨r, hr⟩ : ∃ r, allDig l = r := ⟨_, rfl⟩
  rw [hr]
  have HR := Lib.hid hr
  clear hr
  go_enter Tryd.func48, Tryd.ntmps48
  go_wp2
  go_loop [7] (fun i => ∃ k : Nat, k ≤ l.length ∧ i = .int .i64 k ∧ Hid (allDig (l.take k) = true)) (fun i => l.length - (RowKit.intOf i).toNat)
  case atStart => exact ⟨0, Nat.zero_le _, rfl, (by simp [allDig] : allDig (l.take 0) = true)⟩
  case round =>
    obtain ⟨k, hk, rfl, hd⟩ := hrel
    by_cases hlt : k < l.length
    · have hlt2 : (k : Int) < (l.length : Int) := by omega
      obtain ⟨b, o, rfl, _, hS⟩ := H.out.at (by omega)
      have hcell := hS k hlt
      have hsz := HM.out l[k] (List.getElem_mem _)
      have ht := allDig_take l k hlt
      have hf := allDig_false l k hlt
      obtain ⟨s, hs⟩ : ∃ s, l[k] = s := ⟨_, rfl⟩
      rw [hs] at hcell ht hf hsz
      have HT := Lib.hid ht; have HF := Lib.hid hf; have HS := Lib.hid hS
      clear ht hf hs hS
      by_cases h32 : s.size = 32
      · have h32a : ((s.size : Int) == 32) = true := by rw [beq_iff_eq]; omega
        have h32b : ((s.size : Int) != 32) = false := by rw [bne_eq_false_iff_eq]; omega
        have H32 := Lib.hid h32
        clear h32
        go_wp2
        go_round
        case rel => exact ⟨k + 1, by omega, by go_num, (by rw [HT.out, hd.out, decide_eq_true H32.out]; rfl : allDig (l.take (k + 1)) = true)⟩
        case measure => simp [RowKit.intOf]; omega
      · have h32a : ((s.size : Int) == 32) = false := by rw [beq_eq_false_iff_ne]; omega
        have h32b : ((s.size : Int) != 32) = true := by rw [bne_iff_ne]; omega
        have hrf : r = false := by rw [← HR.out, HF.out h32]
        have HRF := Lib.hid hrf
        clear h32 hrf
        go_wp2
        go_ret
        exact ⟨ret_bool HRF.out.symm, rfl⟩
    · have hk2 : k = l.length := by omega
      have hrt : r = true := by rw [← HR.out, ← hd.out, hk2, List.take_length]
      have HRT := Lib.hid hrt
      clear hrt hk2
      go_wp2
      go_ret
      exact ⟨ret_bool HRT.out.symm, rfl⟩

/-! ### value -/

/-- What value leaves. -/
def ValPost (w : World) (n i : Nat) (s : ByteArray) (p : List ByteArray) (e : Ending) (w' : World) : Prop :=
  ∃ (v : ByteArray) (ok : Bool), e = .returned (.tuple #[.string v, .bool ok]) ∧ valF n i s p = (if ok then some v else none) ∧ v.size ≤ 32 ∧ Below w.heap.size w w'
theorem valF_nil (n i : Nat) (s : ByteArray) : valF n i s [] = if n = 1 then some (leafF s) else none := rfl
theorem valF_snoc (n i : Nat) (s : ByteArray) (q : List ByteArray) (x : ByteArray) : valF n i s (q ++ [x]) = if n ≤ 1 then none
    else if i < splitN n then (valF (splitN n) i s q).map fun v => nodeF v x else (valF (n - splitN n) (i - splitN n) s q).map fun v => nodeF x v := by
  unfold valF; rw [List.reverse_append]; rfl
theorem last_of {l : List ByteArray} (h : 0 < l.length) : ∃ q x, l = q ++ [x] ∧ q.length = l.length - 1 := by
  have hne : l ≠ [] := by intro e; subst e; simp at h
  exact ⟨l.dropLast, l.getLast hne, (List.dropLast_concat_getLast hne).symm, by simp⟩

set_option maxRecDepth 100000 in
set_option maxHeartbeats 2000000 in
theorem value_any : ∀ (N : Nat) (p : List ByteArray) (n i : Nat) (s : ByteArray) (ad : Option Addr) (cap : Nat) (w : World), p.length ≤ N → i < n → n ≤ 9223372036854775807 → s.size ≤ 1099511627776 → Holds w ad cap p → Small p → Ready w →
    Calls Tryd.prog 49 #[.int .i64 (n : Nat), .int .i64 (i : Nat), .string s, .slice ad p.length cap] w (ValPost w n i s p) := by
  intro N
  induction N with
  | zero =>
    intro p n i s ad cap w hN hi hn hs hH hM hR
    have hp : p = [] := List.eq_nil_of_length_eq_zero (by omega)
    subst hp
    have hv := valF_nil n i s
    by_cases h1 : n = 1
    · rw [if_pos h1] at hv
      have C := Lib.hid (leaf_any s hs w hR); have HV := Lib.hid hv
      have hz := leafF_size s
      obtain ⟨v, hve⟩ : ∃ v, leafF s = v := ⟨_, rfl⟩
      rw [hve] at C HV hz
      subst h1
      clear hv hve hH hM hR
      go_enter Tryd.func49, Tryd.ntmps49
      go_wp2_with fail
      refine C.out.mono ?_
      rintro e w' ⟨rfl, hb⟩
      go_wp2
      go_ret2
      exact ⟨v, true, rfl, HV.out, by omega, hb⟩
    · rw [if_neg h1] at hv
      have hn1 : ((n : Int) == 1) = false := by rw [beq_eq_false_iff_ne]; omega
      have HV := Lib.hid hv
      clear hv hH hM hR h1
      go_enter Tryd.func49, Tryd.ntmps49
      go_wp2_with fail
      go_ret2
      exact ⟨ByteArray.empty, false, rfl, HV.out, by decide, Below.refl _ _⟩
  | succ N ih =>
    intro p n i s ad cap w hN hi hn hs hH hM hR
    by_cases hp : p.length = 0
    · exact ih p n i s ad cap w (by omega) hi hn hs hH hM hR
    · obtain ⟨q, x, rfl, hq⟩ := last_of (l := p) (by omega)
      obtain ⟨b, o, rfl, hlt, hS⟩ := hH.at (by omega)
      have hcap := hH.2.1
      have hlc := hH.1
      obtain ⟨m, hm⟩ : ∃ m, q.length = m := ⟨_, rfl⟩
      have hpl : (q ++ [x]).length = m + 1 := by simp [hm]
      have hcell : w.cell? ⟨b, o + m, none⟩ = some (.string x) := by
        have := hS m (by omega)
        simpa [← hm] using this
      have hHq : Holds w (some ⟨b, o, none⟩) cap q := ⟨by omega, by omega, .inr ⟨b, o, rfl, hlt, by have := hS.take m; rwa [← hm, List.take_left] at this⟩⟩
      have hMq : Small q := fun s hs => hM s (by simp [hs])
      have hx := hM x (by simp)
      have hv := valF_snoc n i s q x
      rw [hpl] at hlc hN hcap ⊢
      have hsl := fun w => slice_lo b o (m + 1) cap m (by omega) w
      by_cases h1 : n = 1
      · rw [if_pos (by omega)] at hv
        have hn1 : ((n : Int) == 1) = true := by rw [beq_iff_eq]; omega
        have HV := Lib.hid hv
        clear hv hH hM hR hS hHq hMq ih h1 hm hpl hq
        go_enter Tryd.func49, Tryd.ntmps49
        go_wp2_with fail
        go_ret2
        exact ⟨ByteArray.empty, false, rfl, HV.out, by decide, Below.refl _ _⟩
      · rw [if_neg (by omega)] at hv
        have hn1 : ((n : Int) == 1) = false := by rw [beq_eq_false_iff_ne]; omega
        have hk := splitN_lt (n := n) (by omega)
        have hp1 := splitN_pos n
        have csp := split_any n (by omega) hn
        obtain ⟨k, ek⟩ : ∃ k, splitN n = k := ⟨_, rfl⟩
        rw [ek] at hv hk hp1 csp
        have CS := Lib.hid csp
        clear csp ek
        by_cases hik : i < k
        · rw [if_pos hik] at hv
          have hik2 : (i : Int) < (k : Int) := by omega
          have c := ih q k i s (some ⟨b, o, none⟩) cap w (by omega) hik (by omega) hs hHq hMq hR
          rw [hm] at c
          have cn := fun v W (hv : v.size ≤ 32) (h : Below w.heap.size w W) => grown_call (node_any v x (by omega) hx W (hR.below h)) h h.size
          have hcb := fun W (h : Below w.heap.size w W) => (h.cell (p := ⟨b, o + m, none⟩) hlt).trans hcell
          have HV := Lib.hid hv; have C := Lib.hid c; have CN := Lib.hid cn; have HCB := Lib.hid hcb
          clear hv c cn hcb hH hM hR hS hHq hMq ih h1 hm hpl hq hcell
          go_enter Tryd.func49, Tryd.ntmps49
          go_wp2_with fail
          refine (CS.out _).mono ?_
          rintro e w' ⟨rfl, rfl⟩
          go_wp2_with fail
          refine C.out.mono ?_
          rintro e W1 ⟨v, ok, rfl, hval, hvs, hb1⟩
          have hcell := HCB.out W1 hb1
          have HVAL := Lib.hid hval
          clear hval
          go_wp2_with fail
          refine (CN.out v W1 hvs hb1).mono ?_
          rintro e W2 ⟨rfl, hb2⟩
          go_wp2
          go_ret2
          exact ⟨_, ok, rfl, by rw [HV.out, HVAL.out]; cases ok <;> rfl, by rw [nodeF_size]; decide, hb2⟩
        · rw [if_neg hik] at hv
          have hik2 : ¬ (i : Int) < (k : Int) := by omega
          have c := ih q (n - k) (i - k) s (some ⟨b, o, none⟩) cap w (by omega) (by omega) (by omega) hs hHq hMq hR
          rw [hm, show ((n - k : Nat) : Int) = (n : Int) - (k : Int) by omega, show ((i - k : Nat) : Int) = (i : Int) - (k : Int) by omega] at c
          have cn := fun v W (hv : v.size ≤ 32) (h : Below w.heap.size w W) => grown_call (node_any x v hx (by omega) W (hR.below h)) h h.size
          have hcb := fun W (h : Below w.heap.size w W) => (h.cell (p := ⟨b, o + m, none⟩) hlt).trans hcell
          have HV := Lib.hid hv; have C := Lib.hid c; have CN := Lib.hid cn; have HCB := Lib.hid hcb
          clear hv c cn hcb hH hM hR hS hHq hMq ih h1 hm hpl hq hcell
          go_enter Tryd.func49, Tryd.ntmps49
          go_wp2_with fail
          refine (CS.out _).mono ?_
          rintro e w' ⟨rfl, rfl⟩
          go_wp2_with fail
          refine C.out.mono ?_
          rintro e W1 ⟨v, ok, rfl, hval, hvs, hb1⟩
          have hcell := HCB.out W1 hb1
          have HVAL := Lib.hid hval
          clear hval
          go_wp2_with fail
          refine (CN.out v W1 hvs hb1).mono ?_
          rintro e W2 ⟨rfl, hb2⟩
          go_wp2
          go_ret2
          exact ⟨_, ok, rfl, by rw [HV.out, HVAL.out]; cases ok <;> rfl, by rw [nodeF_size]; decide, hb2⟩
end Go.Proofs.YtoaaelnmbpmbeaaDoor
