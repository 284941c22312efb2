/-
  The contract of package integer's Valid.
-/
import Derived.Test.YtildgpahacaglaaDoorPrefix
namespace Go.Proofs.YtildgpahacaglaaDoor
open Go Go.Proofs Go.RowKit Go.Lib

theorem validB_split (s : ByteArray) : validB s = ((!minusB s || decide (bytesL (behindB s) ≠ [48])) && plainB (bytesL (behindB s))) := by
  cases hm : minusB s with
  | false =>
    rw [behind_false hm]
    unfold validB validL
    unfold minusB at hm
    rw [decide_eq_false_iff_not] at hm
    split
    · rename_i r e; rw [e] at hm; simp at hm
    · simp
  | true =>
    rw [behind_true hm]
    have h0 := minus_size hm
    have hc := bytesL_cons s h0
    unfold minusB at hm
    rw [decide_eq_true_eq, hc] at hm
    simp at hm
    unfold validB
    rw [hc, hm]
    show (decide _ && plainB _) = _
    simp
theorem behind_len (s : ByteArray) : (behindB s).size ≤ s.size := by
  unfold behindB
  split
  · rw [ByteArray.size_extract]; omega
  · exact Nat.le_refl _
theorem plain_size {r : List Nat} (h : ¬ (0 < r.length ∧ r.length ≤ 200)) : plainB r = false := by
  unfold plainB
  rw [decide_eq_false h]; simp
theorem valid_outer (s : ByteArray) (h : ¬ (0 < (behindB s).size ∧ (behindB s).size ≤ 200)) : validB s = false := by
  rw [validB_split, plain_size (by rw [bytesL_length]; exact h), Bool.and_false]
theorem valid_badD (s : ByteArray) (k : Nat) (h : k < (behindB s).size) (hx : ((behindB s)[k]'h).toNat < 48 ∨ 57 < ((behindB s)[k]'h).toNat) : validB s = false := by
  rw [validB_split, plain_bad k h hx, Bool.and_false]
theorem valid_goodD (s : ByteArray) (h0 : 0 < (behindB s).size) (h2 : (behindB s).size ≤ 200) (h : ∀ j (hj : j < (behindB s).size), 48 ≤ ((behindB s)[j]'hj).toNat ∧ ((behindB s)[j]'hj).toNat < 58) :
    validB s = (decide (((behindB s)[0]'h0).toNat ≠ 48) || decide (s = ⟨#[48]⟩)) := by
  rw [validB_split, plain_good h, decide_eq_true (show 0 < (behindB s).size ∧ (behindB s).size ≤ 200 from ⟨h0, h2⟩), Bool.true_and]
  have hh := head48 (behindB s) h0
  rw [show decide ((bytesL (behindB s)).head? ≠ some 48) = decide (((behindB s)[0]'h0).toNat ≠ 48) from decide_eq_decide.2 hh]
  cases hm : minusB s with
  | false =>
    have e := behind_false hm
    rw [show decide (bytesL (behindB s) = [48]) = decide (s = ⟨#[48]⟩) from decide_eq_decide.2 (by rw [e]; exact bytesL_48 s)]
    simp [Bool.or_comm]
  | true =>
    have hs : s ≠ ⟨#[48]⟩ := by
      rintro rfl
      exact absurd hm (by decide +kernel)
    rw [decide_eq_false hs, Bool.or_false]
    have hx : bytesL (behindB s) = [48] → ((behindB s)[0]'h0).toNat = 48 := fun e => by
      by_cases h48 : ((behindB s)[0]'h0).toNat = 48
      · exact h48
      · have := hh.2 h48; rw [e] at this; simp at this
    by_cases h1 : ((behindB s)[0]'h0).toNat = 48
    · by_cases h3 : bytesL (behindB s) = [48] <;> simp [h1, h3]
    · have h3 : bytesL (behindB s) ≠ [48] := fun e => h1 (hx e)
      simp [h1, h3]

set_option maxRecDepth 100000 in
set_option maxHeartbeats 8000000 in
theorem valid_w (s : ByteArray) (hs : s.size ≤ 1099511627776) (w : World) :
    Calls Tryd.prog 19 #[.string s] w fun e w' => e = .returned (.bool (validB s)) ∧ w = w' := by
  have ct := fun w => trimPrefix_any s hs w
  have hout := valid_outer s
  have hbad := valid_badD s
  have hgood := valid_goodD s
  have hDs := behind_len s
  obtain ⟨D, hD⟩ : ∃ D, behindB s = D := ⟨_, rfl⟩
  rw [hD] at ct
  simp only [hD] at hout hbad hgood hDs
  obtain ⟨V, hV⟩ : ∃ V, validB s = V := ⟨_, rfl⟩
  rw [hV] at hout hbad hgood ⊢
  have CT := Lib.hid ct; have HO := Lib.hid hout; have HBAD := Lib.hid hbad; have HGOOD := Lib.hid hgood
  clear ct hout hbad hgood
  have hD40 : D.size ≤ 1099511627776 := by omega
  by_cases h0 : D.size = 0
  · have hv : V = false := HO.out (by omega)
    have hDe : D = ⟨#[]⟩ := by
      apply ByteArray.ext
      apply Array.eq_empty_of_size_eq_zero
      exact h0
    clear HO HBAD HGOOD
    clear hD hV
    subst hv hDe
    go_enter Tryd.func19, Tryd.ntmps19
    go_wp2_with fail
    refine (CT.out _).mono ?_
    rintro e w1 ⟨rfl, rfl⟩
    go_wp2_with fail
    go_ret
    exact ⟨rfl, rfl⟩
  · have hne : (D.toList == (⟨#[]⟩ : ByteArray).toList) = false := by
      rw [str_eq_iff]
      exact decide_eq_false (fun h => h0 (by rw [h]; rfl))
    have hne2 : (D.toList == []) = false := by rw [← hne, ByteArray.toList_eq ⟨#[]⟩]
    have hne3 : D.toList ≠ [] := by simpa using hne2
    by_cases h2 : D.size ≤ 200
    · have h2i : ¬ (200 : Int) < (D.size : Int) := by omega
      go_enter Tryd.func19, Tryd.ntmps19
      go_wp2_with fail
      refine (CT.out _).mono ?_
      rintro e w1 ⟨rfl, rfl⟩
      go_wp2_with fail
      go_loop [16] (fun i => ∃ k : Nat, k ≤ D.size ∧ i = .int .i64 k ∧ Hid (∀ j (hj : j < D.size), j < k → 48 ≤ (D[j]'hj).toNat ∧ (D[j]'hj).toNat < 58)) (fun i => D.size - (RowKit.intOf i).toNat)
      case atStart => exact ⟨0, Nat.zero_le _, rfl, (fun j _ h => absurd h (by omega) : ∀ j (hj : j < D.size), j < 0 → 48 ≤ (D[j]'hj).toNat ∧ (D[j]'hj).toNat < 58)⟩
      case round =>
        obtain ⟨k, hk, rfl, hall⟩ := hrel
        by_cases hlt : k < D.size
        · have hk1 : (k : Int) < (D.size : Int) := by omega
          have hix := fun w => index_str D k hlt w
          have hbad := HBAD.out k hlt
          have hnx : 48 ≤ (D[k]'hlt).toNat ∧ (D[k]'hlt).toNat < 58 → ∀ j (hj : j < D.size), j < k + 1 → 48 ≤ (D[j]'hj).toNat ∧ (D[j]'hj).toNat < 58 := fun hx j hj hjk => by
            by_cases h : j = k
            · subst h; exact hx
            · exact hall.out j hj (by omega)
          obtain ⟨x, hx⟩ : ∃ x, (D[k]'hlt).toNat = x := ⟨_, rfl⟩
          rw [hx] at hix hbad hnx
          have HB := Lib.hid hbad; have HNX := Lib.hid hnx
          clear hbad hnx hx
          by_cases h1 : x < 48
          · have a1 : (x : Int) < 48 := by omega
            have a2 : decide ((x : Int) < 48) = true := decide_eq_true a1
            have a3 : decide (x < 48) = true := decide_eq_true h1
            have HBF := Lib.hid (show false = V from (HB.out (.inl h1)).symm)
            go_wp2_with fail
            go_ret
            exact ⟨ret_bool HBF.out, rfl⟩
          · have a1 : ¬ (x : Int) < 48 := by omega
            have a2 : decide ((x : Int) < 48) = false := decide_eq_false a1
            have a3 : decide (x < 48) = false := decide_eq_false h1
            by_cases h2' : 57 < x
            · have c1 : (57 : Int) < (x : Int) := by omega
              have c2 : decide ((57 : Int) < (x : Int)) = true := decide_eq_true c1
              have c3 : decide (57 < x) = true := decide_eq_true h2'
              have HBF := Lib.hid (show false = V from (HB.out (.inr h2')).symm)
              go_wp2_with fail
              go_ret
              exact ⟨ret_bool HBF.out, rfl⟩
            · have c1 : ¬ (57 : Int) < (x : Int) := by omega
              have c2 : decide ((57 : Int) < (x : Int)) = false := decide_eq_false c1
              have c3 : decide (57 < x) = false := decide_eq_false h2'
              have HX := Lib.hid (show 48 ≤ x ∧ x < 58 by omega)
              go_wp2_with fail
              go_round
              case rel => exact ⟨k + 1, by omega, by go_num, HNX.out HX.out⟩
              case measure => simp [RowKit.intOf]; omega
        · have hk1 : ¬ (k : Int) < (D.size : Int) := by omega
          have z0 : 0 < D.size := by omega
          have hg := HGOOD.out z0 h2 (fun j hj => hall.out j hj (by omega))
          have hix : ∀ w, (Instr.index 9 (.string D) (.int .i64 0)).run Tryd.prog w = .ok (.int .u8 (((D[0]'z0).toNat : Nat) : Int)) w := fun w => index_str D 0 z0 w
          obtain ⟨x, hx⟩ : ∃ x, (D[0]'z0).toNat = x := ⟨_, rfl⟩
          rw [hx] at hix hg
          have HG := Lib.hid hg
          clear hg hx hall HO HBAD HGOOD hV
          by_cases h1 : x = 48
          · subst h1
            have e1 : (s.toList == (⟨#[48]⟩ : ByteArray).toList) = decide (s = ⟨#[48]⟩) := str_eq_iff _ _
            obtain ⟨b, hb⟩ : ∃ b, decide (s = ⟨#[48]⟩) = b := ⟨_, rfl⟩
            rw [hb] at e1
            have e3 : (s.toList == [48]) = b := by rw [← list48]; exact e1
            have hbv : b = V := by rw [HG.out, hb]; rfl
            have HBV := Lib.hid hbv
            clear hbv hb HG
            go_wp2_with fail
            go_ret
            exact ⟨ret_bool HBV.out, rfl⟩
          · have g1 : ((x : Int) != 48) = true := by rw [bne_iff_ne]; omega
            have g2 : ((x : Int) == 48) = false := by rw [beq_eq_false_iff_ne]; omega
            have hbv : true = V := by rw [HG.out, decide_eq_true h1]; rfl
            have HBV := Lib.hid hbv
            clear hbv HG
            go_wp2_with fail
            go_ret
            exact ⟨ret_bool HBV.out, rfl⟩
    · have hv : V = false := HO.out (by omega)
      have h2i : (200 : Int) < (D.size : Int) := by omega
      clear HO HBAD HGOOD
      clear hD hV
      subst hv
      go_enter Tryd.func19, Tryd.ntmps19
      go_wp2_with fail
      refine (CT.out _).mono ?_
      rintro e w1 ⟨rfl, rfl⟩
      go_wp2_with fail
      go_ret
      exact ⟨rfl, rfl⟩
end Go.Proofs.YtildgpahacaglaaDoor
