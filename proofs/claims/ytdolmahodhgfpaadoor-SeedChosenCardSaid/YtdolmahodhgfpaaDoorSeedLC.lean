/-
  SeedChosen: its walk.
-/
import Derived.Test.YtdolmahodhgfpaaDoorSeedS
import Derived.Test.YtdolmahodhgfpaaDoorSeedH
import Derived.Deep.CutRange
import Derived.Deep.DeepCutAuto
import Derived.Deep.CutBlock
namespace Go.Proofs.YtdolmahodhgfpaaDoor
open Go Go.Proofs Go.RowKit Go.Lib

/-- The index that was chosen last. -/
def lastN (d : Nat) (l : List Nat) : Nat := if d = 0 then 0 else posN (d - 1) l
theorem lastN_le (d : Nat) (l : List Nat) : lastN d l ≤ posN d l := by
  unfold lastN
  split
  · exact Nat.zero_le _
  · exact posN_mono l (d - 1) d (by omega)
theorem lastN_step (d : Nat) (l : List Nat) : lastN (d + 1) l = posN d l := by
  unfold lastN
  rw [if_neg (by omega), Nat.add_sub_cancel]
set_option maxRecDepth 100000 in
set_option maxHeartbeats 16000000 in
theorem seedChosen_walk (ad : Option Addr) (c : Nat) (l : List Int) (hl : l.length ≤ maxLen) (_hc : l.length ≤ c) (hx : ∀ i (hi : i < l.length), -9223372036854775808 ≤ l[i] ∧ l[i] ≤ 9223372036854775807) (w : World) (hI : IntsL w ad l) (hR : Ready w) :
    Calls Tryd.prog 9 #[.slice ad l.length c] w fun e w' => e = .returned (.bool true) ∧ Below w.heap.size w w' := by
  have HC := Lib.hid (fun k (hk : k < l.length) => show ∃ b o, ad = some ⟨b, o, none⟩ ∧ ∀ W, Below w.heap.size w W → W.cell? ⟨b, o + k, none⟩ = some (.int .i64 l[k]) from by
    rcases hI with h | ⟨b, o, e1, e2, e3⟩
    · subst h; exact absurd hk (Nat.not_lt_zero _)
    · exact ⟨b, o, e1, fun W hb => (hb.cell (p := ⟨b, o + k, none⟩) e2).trans (e3 k hk)⟩)
  have K0 := Lib.hid (fun k (hk : k < l.length) W => pick6_any l[k] 20 (hx k hk).1 (hx k hk).2 (by decide) (by decide) W)
  obtain ⟨ws, hws⟩ : ∃ ws, wsN l = ws := ⟨_, rfl⟩
  have hn := wsN_length l
  have HG := Lib.hid (fun k (h1 : k < (wsN l).length) (h2 : k < l.length) => wsN_get l k h1 h2)
  have hlt := fun k (h1 : k < (wsN l).length) => wsN_lt l k h1
  rw [hws] at hn HG hlt
  clear hws
  have h20 : ws.length ≤ 12 := by omega
  have hsum := sum_take_le ws hlt
  have hST := fun k h => sum_take_step ws k h
  have HCH := Lib.hid (fun d => choose_small ws (by omega) hlt d)
  obtain ⟨S, hS⟩ : ∃ S, ws.sum = S := ⟨_, rfl⟩
  have hS2 : S ≤ 240 := by
    have := hsum ws.length (Nat.le_refl _)
    rw [List.take_length] at this
    omega
  have HTK := Lib.hid (show (ws.take ws.length).sum = S by rw [List.take_length]; exact hS)
  have HPL := Lib.hid (fun d (h : d < S) => posN_lt ws d (by omega))
  have HSTEP := Lib.hid (fun d (h : d < S) => cntN_step ws d (by omega))
  have HALL := Lib.hid (cntN_all ws S (by omega))
  have HZ := Lib.hid (cntN_zero ws)
  have HGET := Lib.hid (fun d i => cntN_get ws d i)
  have HCL := Lib.hid (fun d => cntN_length ws d)
  have HLL := Lib.hid (fun d => lastN_le d ws)
  have HLS := Lib.hid (fun d => lastN_step d ws)
  rw [hS] at HCH
  have HLT := Lib.hid hlt; have HSUM := Lib.hid hsum; have HST := Lib.hid hST; have HN := Lib.hid hn; have H20 := Lib.hid h20
  have CC := Lib.hid (fun ad c d W hI h => choose_u ad c (intsN ws) (by rw [intsN_length]; unfold maxLen; omega) d W hI h)
  have HIL := Lib.hid (intsN_length ws)
  have HR := Lib.hid hR; have SANE := Lib.hid (fun W h => sane6_any W h)
  unfold maxLen at hl
  have HLEN := Lib.hid hl
  clear hS hlt hsum hST hn h20 hI hR hx
  go_enter Tryd.func9, Tryd.ntmps9
  go_wp2_with fail
  refine (SANE.out _ HR.out).mono ?_
  rintro e z1 ⟨rfl, b⟩
  have P1 := Lib.hid b
  clear b
  go_upto_block 0 with fail
  go_cut [4, 5, 6] from 15 to 39 (fun v s _i wx => s = .int .i64 (S : Int) ∧ ∃ wd wc, v = .slice wd ws.length wc ∧ Hid (IntsL wx wd (intsN ws)) ∧ Hid (Below w.heap.size w wx))
  case first =>
    go_wp2_with fail
    go_loopw [4, 5, 6] (fun v s i wr => ∃ k : Nat, k ≤ ws.length ∧ i = .int .i64 k ∧ s = .int .i64 (((ws.take k).sum : Nat) : Int) ∧ Hid (Own64 wr w.heap.size v (ws.take k)) ∧ Hid (Below w.heap.size w wr)) (fun _ _ i _ => ws.length - (RowKit.intOf i).toNat)
    case atStart => exact ⟨0, Nat.zero_le _, rfl, rfl, Lib.hid (Own64.nil _ _), P1⟩
    case round =>
      obtain ⟨k, hk, rfl, rfl, HOWN, HB⟩ := hrel
      have hn := HN.out
      have hl2 := HLEN.out
      by_cases hlt : k < ws.length
      · have hki : (k : Int) < (l.length : Int) := by omega
        have hki2 : (k : Int) < 12 := by omega
        have hkl : k < l.length := by omega
        obtain ⟨b, o, e1, e2⟩ := HC.out k hkl
        have hik := fun W => at_ints6 b o l.length c k hkl W
        have KK := Lib.hid (K0.out k hkl)
        have hg := HG.out k hlt hkl
        have hs1 := HSUM.out k hk
        have HSS := Lib.hid (HST.out k hlt)
        have hw20 := HLT.out k hlt
        have HN1 := Lib.hid (show ws.take (k + 1) = ws.take k ++ [ws[k]] from List.take_succ_eq_append_getElem hlt)
        have hpl : (ws.take k).length + 1 ≤ 17592186044416 := by rw [List.length_take]; omega
        have HLT1 := Lib.hid hlt
        have E2 := Lib.hid e2
        have c1 := e2 wr HB.out
        rw [← hg] at KK
        rw [e1]
        generalize ws[k] = x at *
        generalize hp : ws.take k = p at *
        generalize l[k] = y at *
        clear hg hp e2 hlt hkl hn
        go_wp2_with fail
        refine (KK.out _).mono ?_
        rintro e z ⟨rfl, rfl⟩
        have hsize := HB.out.size
        go_wp2_with (first | (at_builtin; refine walk_push64 (w0 := w) rfl _ _ rfl w.heap.size _ p [x] rfl (HOWN.out.alloc _) (HB.out.alloc hsize _) (Nat.le_trans hsize (by simp)) wr.heap.size 0 1 1 rfl rfl (new_num1 .i64 wr _ x rfl _) hpl ?_; intro v3 W3 ho3 hb3; have c2 := E2.out W3 hb3))
        have HB3 := Lib.hid hb3; have HO3 := Lib.hid ho3
        clear c1 c2 hb3 ho3
        refine (KK.out _).mono ?_
        rintro e z ⟨rfl, rfl⟩
        go_wp2_with fail
        go_roundw
        case rel => exact ⟨k + 1, HLT1.out, by go_num, congrArg (Value.int .i64) (by rw [HSS.out]; omega), by rw [HN1.out]; exact HO3, HB3⟩
        case measure => have h9 := HLT1.out; simp [RowKit.intOf]; omega
      · obtain rfl : k = ws.length := by omega
        have ho := HOWN.out
        rw [List.take_length] at ho
        obtain ⟨wd, wc, rfl, hwc, hwi⟩ := ho.ints
        have HWI := Lib.hid hwi
        rw [HTK.out]
        clear hwi hwc ho
        by_cases h12 : (ws.length : Int) < (l.length : Int)
        · have hki2 : ¬ (ws.length : Int) < 12 := by omega
          clear hn
          go_wp2_with fail
          go_meet
          exact ⟨rfl, _, _, rfl, HWI, HB⟩
        · clear hn
          go_wp2_with fail
          go_meet
          exact ⟨rfl, _, _, rfl, HWI, HB⟩
  case rest =>
    obtain ⟨rfl, wd, cc, rfl, HWI, HB⟩ := hcut
    clear K0 HC
    have h20 := H20.out
    have hmk := fun W => make_ints6 ws.length (by omega) W ws.length rfl
    have hzl := HZ.out
    rw [← hzl] at hmk
    obtain ⟨n, hn⟩ : ∃ n, ws.length = n := ⟨_, rfl⟩
    have HNN := Lib.hid hn
    rw [hn] at hmk h20 HPL HIL HCL
    rw [hn]
    clear hn hzl
    have H20N := Lib.hid h20
    obtain ⟨zm, hzm⟩ : ∃ W, wc.alloc (.cells (numVals .i64 (cntN 0 ws)).toArray 3) = W := ⟨_, rfl⟩
    have HL0 := Lib.hid (show ListAt zm wc.heap.size (cntN 0 ws) by rw [← hzm]; exact listAt_new wc _)
    have HB0 := Lib.hid (show Below wc.heap.size wc zm by rw [← hzm]; exact (Below.refl _ _).alloc (Nat.le_refl _) _)
    have HG0 := Lib.hid (show wc.heap.size < zm.heap.size by rw [← hzm]; simp)
    have HZM := Lib.hid hzm
    clear hzm
    go_upto_block 2 with fail
    rw [HZM.out]
    clear hmk
    obtain ⟨G, hG⟩ : ∃ G, wc.heap.size = G := ⟨_, rfl⟩
    have HGG := Lib.hid hG
    rw [hG] at HL0 HG0 ⊢
    clear hG
    have hs240 := hS2
    have HS2 := Lib.hid hS2
    have hn12 := H20N.out
    go_wp2_with fail
    go_loopw [8, 9] (fun la d wr => ∃ k : Nat, k ≤ S ∧ d = .int .i64 k ∧ la = .int .i64 ((lastN k ws : Nat) : Int) ∧ Hid (ListAt wr G (cntN k ws)) ∧ Hid (Below wc.heap.size wc wr) ∧ Hid (G < wr.heap.size)) (fun _ d _ => S - (RowKit.intOf d).toNat)
    case atStart => exact ⟨0, Nat.zero_le _, rfl, rfl, HL0, HB0, HG0⟩
    case round =>
      obtain ⟨k, hk, rfl, rfl, HL, HBW, HG⟩ := hrel
      have ci := CC.out wd cc (k : Int) wr (HWI.out.below HBW.out) (HR.out.below (below_up6 HB.out HBW.out))
      have cs := CC.out wd cc (S : Int) wr (HWI.out.below HBW.out) (HR.out.below (below_up6 HB.out HBW.out))
      rw [HIL.out, HCH.out] at ci cs
      by_cases hlt : k < S
      · have hki : (k : Int) < (S : Int) := by omega
        rw [if_pos hlt, show chV (some (posN k ws)) = ((posN k ws : Nat) : Int) from rfl, show chE (some (posN k ws)) = 0 from rfl] at ci
        have CI := Lib.hid ci
        have hp := HPL.out k hlt
        have hle := HLL.out k
        have hgt := HGET.out k (posN k ws)
        have HST2 := Lib.hid (HSTEP.out k hlt)
        have HLS2 := Lib.hid (HLS.out k)
        have HK := Lib.hid hlt
        have HPP := Lib.hid (show posN k ws < (cntN k ws).length by rw [HCL.out]; exact hp)
        obtain ⟨q, hq⟩ : ∃ q, posN k ws = q := ⟨_, rfl⟩
        obtain ⟨la, hla⟩ : ∃ la, lastN k ws = la := ⟨_, rfl⟩
        obtain ⟨y, hy⟩ : ∃ y, (cntN k ws).getD q 0 = y := ⟨_, rfl⟩
        rw [hq] at hp hle hgt HST2 HLS2 HPP CI
        rw [hla] at hle ⊢
        rw [hy] at hgt HST2
        have hqi : ¬ ((q : Int) < (la : Int)) := by omega
        have hqn : ¬ ((n : Int) ≤ (q : Int)) := by omega
        have hqn' : (q : Int) < (n : Int) := by omega
        have HP := Lib.hid hp; have HY := Lib.hid hy; have HGT := Lib.hid hgt
        clear hp hle hgt hq hla hy ci cs hlt
        go_wp2_with fail
        refine CI.out.mono ?_
        rintro e z5 ⟨rfl, b⟩
        have HL2 := Lib.hid (HL.out.below HG.out b)
        have HB2 := Lib.hid (below_up6 HBW.out b)
        have HG2 := Lib.hid (Nat.lt_of_lt_of_le HG.out b.size)
        clear b
        obtain ⟨c1, f1⟩ := HL2.out.get q HPP.out
        rw [HY.out] at c1
        have a1 := fun W => at_z6 G n n q HP.out W
        have hy2 := HGT.out
        have HN := Lib.hid (show ListAt (z5.setCell ⟨G, q, none⟩ (.int .i64 (((y + 1 : Nat)) : Int))) G (cntN (k + 1) ws) by rw [HST2.out]; exact HL2.out.set q (y + 1))
        have HB3 := Lib.hid (show Below wc.heap.size wc (z5.setCell ⟨G, q, none⟩ (.int .i64 (((y + 1 : Nat)) : Int))) from HB2.out.setCell (p := ⟨G, q, none⟩) (by rw [← HGG.out]; exact Nat.le_refl _) _)
        have HG3 := Lib.hid (show G < (z5.setCell ⟨G, q, none⟩ (.int .i64 (((y + 1 : Nat)) : Int))).heap.size by simpa using HG2.out)
        rw [Int.natCast_add] at HN HB3 HG3
        go_wp2_with fail
        go_roundw
        case rel => exact ⟨k + 1, HK.out, by go_num, congrArg (fun j : Nat => Value.int .i64 (j : Int)) HLS2.out.symm, HN, HB3, HG3⟩
        case measure => have h9 := HK.out; simp [RowKit.intOf]; omega
      · obtain rfl : k = S := by omega
        have hki : ¬ (k : Int) < (k : Int) := by omega
        rw [if_neg (Nat.lt_irrefl _), show chV none = 0 from rfl, show chE none = 60 from rfl] at cs
        have CS := Lib.hid cs
        clear ci cs hlt
        rw [HALL.out] at HL
        go_wp2_with fail
        refine CS.out.mono ?_
        rintro e z5 ⟨rfl, b⟩
        have HL2 := Lib.hid (HL.out.below HG.out b)
        have HB2 := Lib.hid (below_up6 HBW.out b)
        have HG2 := Lib.hid (Nat.lt_of_lt_of_le HG.out b.size)
        clear b HL
        have CSAME := Lib.hid (sameR_any (some ⟨G, 0, none⟩) n (intsN ws) wd cc (intsN ws) (by rw [HIL.out]; omega) (by rw [HIL.out]; omega) z5 (intsL_of HG2.out HL2.out) (HWI.out.below HB2.out))
        rw [HIL.out, decide_eq_true (show intsN ws = intsN ws from rfl)] at CSAME
        go_wp2_with fail
        refine CSAME.out.mono ?_
        rintro e z6 ⟨rfl, b⟩
        have HB3 := Lib.hid (below_up6 HB2.out b)
        clear b
        go_wp2
        go_ret
        exact ⟨rfl, below_up6 HB.out HB3.out⟩
end Go.Proofs.YtdolmahodhgfpaaDoor
