/-
  DigestExtensionAccepted returns true for all arguments: the walk.
-/
import Derived.Test.YtoaaelnmbpmbeaaDoorAppend
namespace Go.Proofs.YtoaaelnmbpmbeaaDoor
open Go Go.Proofs Go.RowKit Go.Lib

/-- What stays while the world grows: the list, the table, everything old. -/
structure Keeps (w : World) (W : World) (ad : Option Addr) (cap : Nat) (l : List ByteArray) : Prop where
  hb : Below w.heap.size w W
  hh : Holds W ad cap l
  hr : Ready W
theorem Keeps.go {w W W' : World} {ad : Option Addr} {cap : Nat} {l : List ByteArray} (h : Keeps w W ad cap l) (hb : Below W.heap.size W W') : Keeps w W' ad cap l :=
  ⟨h.hb.trans (hb.mono h.hb.size), h.hh.below hb (Nat.le_refl _), h.hr.below hb⟩
theorem small60 {t : Nat → ByteArray} {k : Nat} : Small (fewL t k) := fun s hs => by have := fewL_small t k s hs; omega
theorem holds_take' {W : World} {ad : Option Addr} {cap : Nat} {l : List ByteArray} (h : Holds W ad cap l) (k : Nat) : Holds W ad cap (l.take k) := by
  obtain ⟨h1, h2, h3⟩ := h
  refine ⟨by simp; omega, by simp; omega, ?_⟩
  rcases h3 with rfl | ⟨b', o, he, hlt, hs⟩
  · exact .inl (by simp)
  · exact .inr ⟨b', o, he, hlt, hs.take k⟩
theorem slice_lo0 (ad : Option Addr) (n c k : Nat) (hk : k ≤ c) (hs : ∀ a, ad = some a → a.spot = none) (w : World) :
    (Instr.slice 26 (.slice ad n c) none (some (.int .i64 (k : Nat))) none).run Tryd.prog w = .ok (.slice ad k c) w := by
  rw [run_slice_h w _ _ _ _ strs_elem .i64 _ (by omega) (by omega), strs_size]
  cases ad with
  | none => simp [Result.andThen, sliced]
  | some a =>
    obtain ⟨b, o, sp⟩ := a
    have : sp = none := hs _ rfl
    subst this
    simp [Result.andThen, sliced, Addr.add]
theorem own_holds' {W : World} {base : Nat} {v : Value} {p : List ByteArray} (n : Nat) (h : OwnStrs W base v p) (hn : p.length = n) (hl : n ≤ 1000000) : ∃ ad cap, v = .slice ad n cap ∧ Holds W ad cap p ∧ ∀ a, ad = some a → a.spot = none := by
  obtain ⟨ad, cap, rfl, hh⟩ := own_holds n h hn hl
  refine ⟨ad, cap, rfl, hh, ?_⟩
  intro a ha
  subst ha
  obtain ⟨_, ⟨h1, h0⟩ | ⟨g, cap, cur, hv, _⟩⟩ := h
  · cases h1
  · cases hv; rfl
/-- The verifier accepts. -/
theorem verx_yes (l : List ByteArray) (k : Nat) (hk : k ≤ l.length) : verX (rootF (l.take k)) k (rootF l) l.length (if k = 0 then [] else partF l k true) = true := by
  by_cases h0 : k = 0
  · subst h0
    simp [verX, rootF_size, allDig]
  · rw [if_neg h0]
    have h := twoF_part l k (by omega) hk
    have hd := partF_dig l.length l k true (Nat.le_refl _)
    have h1 : ¬ (k : Int) = 0 := by omega
    unfold verX
    rw [hd, if_neg h1]
    simp [h, rootF_size, hk]
def extP (l : List ByteArray) (k : Nat) : List ByteArray := if k = 0 then [] else partF l k true
theorem extP_dig (l : List ByteArray) (k : Nat) : allDig (extP l k) = true := by
  unfold extP; split
  · rfl
  · exact partF_dig l.length l k true (Nat.le_refl _)
theorem extP_length (l : List ByteArray) (k j : Nat) (h : l.length < 2 ^ j) (hk : k ≤ l.length) : (extP l k).length ≤ 2 * j := by
  unfold extP; split
  · simp
  · have := partF_length j l k true (by omega)
    have : 1 ≤ j := by
      rcases Nat.eq_zero_or_pos j with h0 | h0
      · subst h0; rw [Nat.pow_zero] at h; omega
      · exact h0
    omega
theorem ext_call (l : List ByteArray) (k : Nat) (ad : Option Addr) (cap : Nat) (w : World) (h6 : l.length ≤ 1000000) (hk : k ≤ l.length) (hH : Holds w ad cap l) (hM : Small l) (hR : Ready w) :
    Calls Tryd.prog 24 #[.slice ad l.length cap, .int .i64 (k : Nat)] w (ErrPost w (extP l k)) := by
  unfold extP
  by_cases h0 : k = 0
  · subst h0; exact ext_zero ad l.length cap w
  · rw [if_neg h0]; exact ext_ok l k ad cap w h6 (by omega) hk hH hM hR

set_option maxRecDepth 100000 in
set_option maxHeartbeats 4000000 in
theorem ext_walk (ad0 : Option Addr) (n0 c0 : Nat) (t : Nat → ByteArray) (m : Int) (hn : n0 ≤ maxLen) (w : World) (hI : StrsIn w ad0 n0 t) (hm0 : -9223372036854775808 ≤ m) (hm1 : m ≤ 9223372036854775807) (hR : Ready w) :
    Calls Tryd.prog 7 #[.slice ad0 n0 c0, .int .i64 m] w fun e w' => e = .returned (.bool true) ∧ Below w.heap.size w w' := by
  have HI := Lib.hid hI; have HR := Lib.hid hR
  clear hI hR
  obtain ⟨M, hM⟩ : ∃ M, min n0 25 = M := ⟨_, rfl⟩
  have hM25 : M ≤ 25 := by omega
  obtain ⟨l, hl⟩ : ∃ l, fewL t M = l := ⟨_, rfl⟩
  have hll : l.length = M := by rw [← hl]; exact fewL_length t M
  have hsm : Small l := by rw [← hl]; exact small60
  have HM := Lib.hid hM; have HL := Lib.hid hl; have HLL := Lib.hid hll; have HSM := Lib.hid hsm
  clear hM hl hll hsm
  go_enter Tryd.func7, Tryd.ntmps7
  go_wp2_with fail
  refine (sane_any _ HR.out).mono ?_
  rintro e w1 ⟨rfl, b1⟩
  have hI1 : Hid (StrsIn w1 ad0 n0 t) := by
    rcases HI.out with h | ⟨b, o, rfl, hlt, hc⟩
    · exact Or.inl h
    · exact Or.inr ⟨b, o, rfl, Nat.lt_of_lt_of_le hlt b1.size, fun i hi => ⟨(b1.cell (p := ⟨b, o + i, none⟩) hlt).trans (hc i hi).1, (hc i hi).2⟩⟩
  have hc1 : Calls Tryd.prog 21 #[.slice ad0 n0 c0, .int .i64 25] w1 (ListPost w1.heap.size w1 l) := by
    have := few_any ad0 n0 c0 t 25 hn (by decide) w1 hI1.out
    rw [HM.out, HL.out] at this
    exact this
  have HC1 := Lib.hid hc1
  clear hc1
  go_wp2_with fail
  refine HC1.out.mono ?_
  rintro e w2 ⟨v, rfl, ho, b2⟩
  obtain ⟨ad, cap, rfl, hh, hsp⟩ := own_holds' M ho HLL.out (by omega)
  have hcap := hh.1
  rw [HLL.out] at hcap
  have K := Lib.hid (Keeps.mk (w := w) (W := w2) (b1.trans (b2.mono b1.size)) hh ((HR.out.below b1).below b2))
  clear ho hh b1 b2 HC1 hI1
  have cR : ∀ W, Keeps w W ad cap l → Calls Tryd.prog 27 #[.slice ad M cap] W fun e w' => e = .returned (.string (rootF l)) ∧ Below W.heap.size W w' := fun W h => by
    have := root_holds h.hh HSM.out h.hr
    rwa [HLL.out] at this
  have CR := Lib.hid cR
  clear cR
  go_wp2_with fail
  refine (CR.out _ K.out).mono ?_
  rintro e w3 ⟨rfl, b3⟩
  have K3 := Lib.hid (K.out.go b3)
  clear b3 K
  obtain ⟨R, hRt⟩ : ∃ R, rootF l = R := ⟨_, rfl⟩
  rw [hRt]
  have HRT := Lib.hid hRt
  clear hRt
  go_wp2_with fail
  go_loopw [7] (fun i wr => ∃ k : Nat, k ≤ M + 1 ∧ i = .int .i64 k ∧ Hid (Keeps w wr ad cap l)) (fun i _ => M + 1 - (RowKit.intOf i).toNat)
  case atStart => exact ⟨0, by omega, rfl, K3⟩
  case round =>
    obtain ⟨k, hk, rfl, KR⟩ := hrel
    by_cases hlt : k ≤ M
    · have hk1 : (k : Int) ≤ (M : Int) := by omega
      have hx := extP_dig l k
      obtain ⟨p, hp⟩ : ∃ p, extP l k = p := ⟨_, rfl⟩
      have ce := ext_call l k ad cap wr (by rw [HLL.out]; omega) (by rw [HLL.out]; exact hlt) KR.out.hh HSM.out KR.out.hr
      have hver := verx_yes l k (by rw [HLL.out]; exact hlt)
      rw [hp] at ce hx
      rw [show (if k = 0 then [] else partF l k true) = p from hp, HRT.out, HLL.out] at hver
      rw [HLL.out] at ce
      have hplen : ∀ j, M < 2 ^ j → p.length ≤ 2 * j := fun j hj => by rw [← hp]; exact extP_length l k j (by rw [HLL.out]; exact hj) (by rw [HLL.out]; exact hlt)
      have hp25 : p.length ≤ 100 := by have := hplen 5 (by omega); omega
      obtain ⟨pn, hpn⟩ : ∃ n, p.length = n := ⟨_, rfl⟩
      have hsl := slice_lo0 ad M cap k (by omega) hsp
      have crk : ∀ W, Keeps w W ad cap l → Calls Tryd.prog 27 #[.slice ad k cap] W fun e w' => e = .returned (.string (rootF (l.take k))) ∧ Below W.heap.size W w' := fun W h => by
        have := root_holds (holds_take' h.hh k) (HSM.out.take k) h.hr
        rwa [show (l.take k).length = k by rw [List.length_take, HLL.out]; omega] at this
      have CE := Lib.hid ce; have HV := Lib.hid hver; have HPL := Lib.hid hplen; have HPN := Lib.hid hpn; have HX := Lib.hid hx; have CRK := Lib.hid crk
      rw [hpn] at hp25
      clear ce hver hplen hpn hx hp crk
      go_wp2_with fail
      refine CE.out.mono ?_
      rintro e w4 ⟨v4, rfl, ho4, b4⟩
      obtain ⟨ad4, cap4, rfl, hh4⟩ := own_holds pn ho4 HPN.out (by omega)
      have K4 := Lib.hid (KR.out.go b4)
      have H4 := Lib.hid hh4
      clear ho4 hh4 b4
      go_wp2_with fail
      refine (binary_any M (by omega) _).mono ?_
      rintro e w5 ⟨⟨j, rfl, hj, hj1⟩, rfl⟩
      have hpj := HPL.out j hj
      rw [HPN.out] at hpj
      have hpj2 : ¬ 2 * (j : Int) < (pn : Int) := by omega
      clear hj
      go_wp2_with fail
      refine (CRK.out _ K4.out).mono ?_
      rintro e w6 ⟨rfl, b6⟩
      have cv := verx_any (rootF (l.take k)) k R M p ad4 cap4 w6 (by omega) (by rw [rootF_size]; decide) (by rw [← HRT.out, rootF_size]; decide) (H4.out.below b6 (Nat.le_refl _)) (small_dig HX.out) (K4.out.go b6).hr
      rw [HV.out, HPN.out] at cv
      have K6 := Lib.hid (K4.out.go b6); have CV := Lib.hid cv
      clear b6 cv
      go_wp2_with fail
      refine CV.out.mono ?_
      rintro e w7 ⟨rfl, b7⟩
      have K7 := Lib.hid (K6.out.go b7)
      clear b7
      go_wp2
      go_roundw
      case rel => exact ⟨k + 1, by omega, by go_num, K7⟩
      case measure => simp [RowKit.intOf]; omega
    · have hk1 : ¬ (k : Int) ≤ (M : Int) := by omega
      obtain ⟨wo, hwo⟩ : ∃ wo : World, wo = wr := ⟨_, rfl⟩
      rw [← hwo] at KR ⊢
      clear hwo
      by_cases hin : 0 ≤ m ∧ m ≤ (M : Int)
      · obtain ⟨j, rfl⟩ := Int.eq_ofNat_of_zero_le hin.1
        have hj2 : (j : Int) ≤ (M : Int) := hin.2
        have ce := ext_call l j ad cap wo (by rw [HLL.out]; omega) (by rw [HLL.out]; omega) KR.out.hh HSM.out KR.out.hr
        rw [HLL.out] at ce
        have CE := Lib.hid ce
        clear ce hin hlt
        go_wp2_with fail
        refine CE.out.mono ?_
        rintro e w4 ⟨v4, rfl, _, b4⟩
        have K4 := Lib.hid (KR.out.go b4)
        clear b4
        go_wp2
        go_ret
        exact ⟨rfl, K4.out.hb⟩
      · have hbad : m < 0 ∨ (M : Int) < m := by omega
        have ce := ext_bad ad M cap m hbad wo
        have hv : verX R m R M [] = false := by unfold verX; rw [decide_eq_false hin]; rfl
        have cv := verx_any R m R M [] none 0 wo (by omega) (by rw [← HRT.out, rootF_size]; decide) (by rw [← HRT.out, rootF_size]; decide) (Holds.nil _ _) (by intro s hs; cases hs) KR.out.hr
        rw [hv] at cv
        have CE := Lib.hid ce; have CV := Lib.hid (show Calls Tryd.prog 31 #[.string R, .int .i64 m, .string R, .int .i64 (M : Nat), .slice none 0 0] wo _ from cv)
        clear ce cv hv hin hlt
        by_cases h0 : m < 0
        · have h1 : ¬ 0 ≤ m := by omega
          clear hbad
          go_wp2_with fail
          refine CE.out.mono ?_
          rintro e w4 ⟨rfl, rfl⟩
          go_wp2_with fail
          refine CV.out.mono ?_
          rintro e w5 ⟨rfl, b5⟩
          have K5 := Lib.hid (KR.out.go b5)
          clear b5
          go_wp2
          go_ret
          exact ⟨rfl, K5.out.hb⟩
        · have h1 : 0 ≤ m := by omega
          have h2 : (M : Int) < m := by omega
          have h3 : decide (m ≤ (M : Int)) = false := decide_eq_false (by omega)
          clear hbad
          go_wp2_with fail
          refine CE.out.mono ?_
          rintro e w4 ⟨rfl, rfl⟩
          go_wp2_with fail
          refine CV.out.mono ?_
          rintro e w5 ⟨rfl, b5⟩
          have K5 := Lib.hid (KR.out.go b5)
          clear b5
          go_wp2
          go_ret
          exact ⟨rfl, K5.out.hb⟩

theorem ext_walk0 (a0 : Option Addr) (n0 c0 : Nat) (m : Int) (w : World) (h : n0 ≤ maxLen ∧ ∃ t, StrsIn w a0 n0 t) (hm0 : -9223372036854775808 ≤ m) (hm1 : m ≤ 9223372036854775807) (hT : HasK w) (h0 : 0 < w.heap.size) :
    Calls Tryd.prog 7 #[.slice a0 n0 c0, .int .i64 m] w fun e w' => e = .returned (.bool true) ∧ Below w.heap.size w w' := by
  obtain ⟨l1, t, hI⟩ := h
  exact ext_walk a0 n0 c0 t m l1 w hI hm0 hm1 ⟨hT, h0⟩
end Go.Proofs.YtoaaelnmbpmbeaaDoor
