/-
  SeedListsMatchReference: its walk.
-/
import Derived.Test.YtdolmahodhgfpaaDoorSeedLM
import Derived.Test.YtdolmahodhgfpaaDoorSeedG
import Derived.Deep.CutBlock
namespace Go.Proofs.YtdolmahodhgfpaaDoor
open Go Go.Proofs Go.RowKit Go.Lib

/-- The code that comes with a list. -/
def codeO (o : Option (List Nat)) : Int := match o with | none => 60 | some _ => 0
/-- What a call that returns a list and a code answers, with no case apart. -/
theorem ListPost6.any {w w' : World} {o : Option (List Nat)} {e : Ending} (h : ListPost6 w o e w') :
    ∃ ad c, e = .returned (.tuple #[.slice ad (intsN (o.getD [])).length c, .int .i64 (codeO o)]) ∧ IntsL w' ad (intsN (o.getD [])) ∧ Below w.heap.size w w' := by
  obtain ⟨h1, b⟩ := h
  cases o with
  | none => exact ⟨none, 0, h1, .inl rfl, b⟩
  | some l =>
    obtain ⟨ad, c, rfl, _, hI⟩ := h1
    exact ⟨ad, c, by rw [Option.getD_some, intsN_length]; rfl, hI, b⟩
/-- Two integers, laid as a slice. -/
def twoI (a b : Int) (k : Nat) : Int := match k with | 0 => a | _ => b
theorem two_cells_i (W : World) (a b : Int) (t : TypeId) (k : Nat) (hk : k < 2) : (W.alloc (.cells #[.int .i64 a, .int .i64 b] t)).cell? ⟨W.heap.size, k, none⟩ = some (.int .i64 (twoI a b k)) := by
  have e : k = 0 ∨ k = 1 := by omega
  rw [cell_of_row _ W.heap.size k _ _ _ (heap_alloc_new W _)]
  rcases e with rfl | rfl <;> rfl
theorem IntsL.takeI {W : World} {ad : Option Addr} {l : List Int} (h : IntsL W ad l) (k : Nat) : IntsL W ad (l.take k) := by
  rcases h with h | ⟨b, o, h1, h2, h3⟩
  · left; subst h; simp
  · right
    refine ⟨b, o, h1, h2, fun i hi => ?_⟩
    have hi2 : i < l.length := by rw [List.length_take] at hi; omega
    rw [h3 i hi2]
    simp
theorem shufO_size (s : ByteArray) (n : Int) : (intsN ((shufO s n).getD [])).length ≤ 1000000 := by
  rw [intsN_length]
  cases h : shufO s n with
  | none => simp
  | some l => have := shufO_length h; simp; omega
theorem sampO_size (s : ByteArray) (n k : Int) : (intsN ((sampO s n k).getD [])).length ≤ 1000000 := by
  rw [intsN_length]
  unfold sampO
  cases h : shufO s n with
  | none => simp
  | some l =>
    have := shufO_length h
    simp only
    split
    · simp; omega
    · simp
set_option maxRecDepth 100000 in
set_option maxHeartbeats 16000000 in
theorem seedLists_walk (s : ByteArray) (n k : Int) (ad : Option Addr) (c : Nat) (l : List Int) (d : Int) (hs : s.size ≤ maxLen) (a0 : -9223372036854775808 ≤ n) (a1 : n ≤ 9223372036854775807) (hl : l.length ≤ maxLen) (hc : l.length ≤ c) (_hx : ∀ i (hi : i < l.length), -9223372036854775808 ≤ l[i] ∧ l[i] ≤ 9223372036854775807) (w : World) (hI : IntsL w ad l) (hR : Ready w) :
    Calls Tryd.prog 4 #[.string s, .int .i64 n, .int .i64 k, .slice ad l.length c, .int .i64 d] w fun e w' => e = .returned (.bool true) ∧ Below w.heap.size w w' := by
  have CS := Lib.hid (fun W => short6_any s hs W); have CN := Lib.hid (fun W => name6_any s hs W)
  have HSZ := Lib.hid (show ∀ k, (twoS (shortS s) (nameS s) k).size ≤ 50 from fun k => by
    have h1 := shortS_size s; have h2 := nameS_size s
    unfold twoS
    split <;> omega)
  have HR := Lib.hid hR; have SANE := Lib.hid (fun W h => sane6_any W h)
  have KP := Lib.hid (fun W => pick6_any n 61 a0 a1 (by decide) (by decide) W)
  have HI := Lib.hid (show IntsL w ad (l.take 210) from hI.takeI 210)
  have htl : (l.take 210).length = min 210 l.length := List.length_take
  obtain ⟨q, hq⟩ : ∃ q : Nat, min 210 l.length = q := ⟨_, rfl⟩
  rw [hq] at htl
  have HQ := Lib.hid htl
  have hq2 : min (l.length : Int) 210 = (q : Int) := by omega
  have HQ2 := Lib.hid hq2
  have HSL := Lib.hid (fun W => slice_to6 ad l.length c q (by omega) W)
  have CCU := Lib.hid (fun W hI h => choose_u ad c (l.take 210) (by rw [htl]; unfold maxLen; omega) d W hI h)
  have CCR := Lib.hid (fun W hI => chooseR_any ad c (l.take 210) (by rw [htl]; unfold maxLen; omega) d W hI)
  rw [htl] at CCU CCR
  generalize l.take 210 = l2 at *
  generalize chV (chooseO l2 d) = cv at *
  generalize chE (chooseO l2 d) = ce at *
  generalize shortS s = A at *
  generalize nameS s = N at *
  generalize W1.pickI n 61 = pn at *
  unfold maxLen at hl
  have HL := Lib.hid hl
  clear hR hI htl hq hq2 hc
  go_enter Tryd.func4, Tryd.ntmps4
  go_wp2_with fail
  refine (SANE.out _ HR.out).mono ?_
  rintro e z1 ⟨rfl, bz⟩
  have P1 := Lib.hid bz
  clear bz
  go_upto_region 2 with fail
  go_cut [33, 34, 35] from 30 to 35 (fun sa sb sc wx => sb = .int .i64 2 ∧ sc = .int .i64 0 ∧ ∃ G : Nat, sa = .slice (some ⟨G, 0, none⟩) 2 2 ∧ Hid (∀ k, k < 2 → ∀ W, Below wx.heap.size wx W → W.cell? ⟨G, k, none⟩ = some (.int .i64 (twoI n pn k))) ∧ Hid (Below w.heap.size w wx))
  case first =>
    go_wp2_with fail
    refine (KP.out _).mono ?_
    rintro e z ⟨rfl, rfl⟩
    go_wp2_with fail
    go_meet
    exact ⟨rfl, rfl, _, rfl, Lib.hid (fun k hk W b => (b.cell (p := ⟨z1.heap.size, k, none⟩) (by simp)).trans (two_cells_i z1 n pn 3 k hk)), Lib.hid (P1.out.alloc P1.out.size _)⟩
  case rest =>
    obtain ⟨rfl, rfl, G, rfl, HZ, PB⟩ := hcut
    generalize wc = zb at *
    go_upto_block 0 with fail
    go_cut [35] from 35 to 102 (fun _i wx => Hid (Below zb.heap.size zb wx))
    case first =>
      go_wp2_with fail
      go_loopw [35] (fun i wr => ∃ k : Nat, k ≤ 2 ∧ i = .int .i64 k ∧ Hid (Below zb.heap.size zb wr)) (fun i _ => 2 - (RowKit.intOf i).toNat)
      case atStart => exact ⟨0, by omega, rfl, Lib.hid (Below.refl _ _)⟩
      case round =>
        obtain ⟨j, hj, rfl, HBW⟩ := hrel
        by_cases hj2 : j < 2
        · have hji : (j : Int) < 2 := by omega
          have hik := fun W => at_z6 G 2 2 j hj2 W
          have hct := HZ.out j hj2 wr HBW.out
          generalize twoI n pn j = m at *
          have HJ2 := Lib.hid hj2
          clear hj
          go_upto_region 5 with fail
          go_cut [44] from 39 to 44 (fun v wx => v = .bool (decide (60 < m ∧ m ≤ 1000)) ∧ Hid (Below zb.heap.size zb wx))
          case first =>
            by_cases h1 : 60 < m
            · by_cases h2 : m ≤ 1000
              · go_wp2_with fail
                go_meet
                exact ⟨by rw [decide_eq_true (show 60 < m ∧ m ≤ 1000 from ⟨h1, h2⟩)], HBW⟩
              · go_wp2_with fail
                go_meet
                exact ⟨by rw [decide_eq_false (show ¬ (60 < m ∧ m ≤ 1000) by omega)], HBW⟩
            · go_wp2_with fail
              go_meet
              exact ⟨by rw [decide_eq_false (show ¬ (60 < m ∧ m ≤ 1000) by omega)], HBW⟩
          case rest =>
            obtain ⟨rfl, HB5⟩ := hcut
            generalize wc = z5 at *
            clear hik hct
            cases hD : decide (60 < m ∧ m ≤ 1000) with
            | true =>
              clear hD
              go_wp2_with fail
              go_roundw
              case rel => exact ⟨j + 1, by have := HJ2.out; omega, by go_num, HB5⟩
              case measure => have := HJ2.out; simp [RowKit.intOf]; omega
            | false =>
              clear hD
              go_upto_region 6 with fail
              go_cut [49, 50, 51] from 45 to 51 (fun sa sb sc wx => sb = .int .i64 2 ∧ sc = .int .i64 0 ∧ ∃ G2 : Nat, sa = .slice (some ⟨G2, 0, none⟩) 2 2 ∧ Hid (∀ k, k < 2 → ∀ W, Below wx.heap.size wx W → W.cell? ⟨G2, k, none⟩ = some (.string (twoS A N k))) ∧ Hid (Below zb.heap.size zb wx))
              case first =>
                go_wp2_with fail
                refine (CS.out _).mono ?_
                rintro e z ⟨rfl, rfl⟩
                go_wp2_with fail
                refine (CN.out _).mono ?_
                rintro e z ⟨rfl, rfl⟩
                go_wp2_with fail
                go_meet
                exact ⟨rfl, rfl, _, rfl, Lib.hid (fun k hk W b => (b.cell (p := ⟨z5.heap.size, k, none⟩) (by simp)).trans (two_cells z5 A N 9 k hk)), Lib.hid (HB5.out.alloc HB5.out.size _)⟩
              case rest =>
                obtain ⟨rfl, rfl, G2, rfl, HZ2, PB2⟩ := hcut
                generalize wc = z6 at *
                have HRZ := Lib.hid (HR.out.below (below_up6 PB.out PB2.out))
                go_wp2_with fail
                go_loopw [51] (fun i wr => ∃ k : Nat, k ≤ 2 ∧ i = .int .i64 k ∧ Hid (Below z6.heap.size z6 wr)) (fun i _ => 2 - (RowKit.intOf i).toNat)
                case atStart => exact ⟨0, by omega, rfl, Lib.hid (Below.refl _ _)⟩
                case round =>
                  obtain ⟨i, hi, rfl, HBI⟩ := hrel
                  by_cases hi2 : i < 2
                  · have hii : (i : Int) < 2 := by omega
                    have hik := fun W => at_strs6 G2 2 2 i hi2 W
                    have hct := HZ2.out i hi2 wr HBI.out
                    have hz := HSZ.out i
                    generalize twoS A N i = X at *
                    have hxm : X.size ≤ maxLen := by unfold maxLen; omega
                    have C1 := Lib.hid (fun W h => shuffle_u X hxm m W h); have D1 := Lib.hid (fun W => shuffleR_any X hxm m W)
                    have C2 := Lib.hid (fun W h => sample_u X hxm m k W h); have D2 := Lib.hid (fun W => sampleR_any X hxm m k W)
                    have Z1 := Lib.hid (shufO_size X m); have Z2 := Lib.hid (sampO_size X m k)
                    generalize shufO X m = o1 at *
                    generalize sampO X m k = o2 at *
                    have HI2 := Lib.hid hi2
                    clear hi hi2 hxm hz
                    go_wp2_with fail
                    refine (C1.out _ (HRZ.out.below HBI.out)).mono ?_
                    intro e y1 h9
                    obtain ⟨ad1, c1, rfl, h8, b⟩ := h9.any
                    have I1 := Lib.hid h8; have P2 := Lib.hid (below_up6 HBI.out b); have B1 := Lib.hid (Below.refl y1.heap.size y1)
                    clear h9 h8 b hik hct hii
                    go_wp2_with fail
                    refine (D1.out _).mono ?_
                    intro e y2 h9
                    obtain ⟨ad2, c2, rfl, h8, b⟩ := h9.any
                    have I2 := Lib.hid h8; have P3 := Lib.hid (below_up6 P2.out b); have B2 := Lib.hid (below_up6 B1.out b); have E2 := Lib.hid (Below.refl y2.heap.size y2)
                    clear h9 h8 b
                    go_wp2_with fail
                    refine (C2.out _ (HRZ.out.below P3.out)).mono ?_
                    intro e y3 h9
                    obtain ⟨ad3, c3, rfl, h8, b⟩ := h9.any
                    have I3 := Lib.hid h8; have P4 := Lib.hid (below_up6 P3.out b); have B3 := Lib.hid (below_up6 B2.out b); have E3 := Lib.hid (below_up6 E2.out b); have F3 := Lib.hid (Below.refl y3.heap.size y3)
                    clear h9 h8 b
                    go_wp2_with fail
                    refine (D2.out _).mono ?_
                    intro e y4 h9
                    obtain ⟨ad4, c4, rfl, h8, b⟩ := h9.any
                    have I4 := Lib.hid h8; have P5 := Lib.hid (below_up6 P4.out b); have B4 := Lib.hid (below_up6 B3.out b); have E4 := Lib.hid (below_up6 E3.out b); have F4 := Lib.hid (below_up6 F3.out b)
                    clear h9 h8 b
                    have S1 := Lib.hid (sameR_any ad1 c1 _ ad2 c2 _ Z1.out Z1.out y4 (I1.out.below B4.out) (I2.out.below E4.out))
                    have S2 := Lib.hid (fun W (b : Below y4.heap.size y4 W) => sameR_any ad3 c3 _ ad4 c4 _ Z2.out Z2.out W (I3.out.below (below_up6 F4.out b)) (I4.out.below b))
                    rw [decide_eq_true (show intsN (o1.getD []) = intsN (o1.getD []) from rfl)] at S1
                    simp only [decide_true] at S2
                    generalize codeO o1 = v1 at *
                    generalize codeO o2 = v2 at *
                    generalize (intsN (o1.getD [])).length = n1 at *
                    generalize (intsN (o2.getD [])).length = n2 at *
                    go_wp2_with fail
                    refine S1.out.mono ?_
                    rintro e y5 ⟨rfl, b⟩
                    have Q5 := Lib.hid b; have P6 := Lib.hid (below_up6 P5.out b)
                    clear b
                    go_wp2_with fail
                    refine (S2.out _ Q5.out).mono ?_
                    rintro e y6 ⟨rfl, b⟩
                    have P7 := Lib.hid (below_up6 P6.out b)
                    have hi9 := HI2.out
                    clear b
                    go_wp2_with fail
                    go_roundw
                    case rel => exact ⟨i + 1, by have := HI2.out; omega, by go_num, P7⟩
                    case measure => have := HI2.out; simp [RowKit.intOf]; omega
                  · have hii : ¬ (i : Int) < 2 := by omega
                    have P7 := Lib.hid (below_up6 PB2.out HBI.out)
                    go_wp2_with fail
                    go_roundw
                    case rel => exact ⟨j + 1, by have := HJ2.out; omega, by go_num, P7⟩
                    case measure => have := HJ2.out; simp [RowKit.intOf]; omega
        · have hji : ¬ (j : Int) < 2 := by omega
          go_wp2_with fail
          go_meet
          exact HBW
    case rest =>
      have PZ := Lib.hid (below_up6 PB.out hcut.out)
      have hq2 := HQ2.out
      have hsl := HSL.out
      clear hcut
      go_wp2_with fail
      refine (CCU.out _ (HI.out.below PZ.out) (HR.out.below PZ.out)).mono ?_
      rintro e y1 ⟨rfl, b⟩
      have P2 := Lib.hid (below_up6 PZ.out b)
      clear b hsl hq2
      go_wp2_with fail
      refine (CCR.out _ (HI.out.below P2.out)).mono ?_
      rintro e y2 ⟨rfl, rfl⟩
      go_wp2
      go_ret
      exact ⟨rfl, P2.out⟩
end Go.Proofs.YtdolmahodhgfpaaDoor
