/-
  The contract of package integer's natural.gcd.
  The contracts of natural.root's closures.
  The contract of package integer's natural.root.
-/
import Derived.Test.YtildgpahacaglaaGreatDoorDivide
import Derived.Test.YtildgpahacaglaaGreatDoorGtext
import Derived.Test.YtildgpahacaglaaGreatDoorGof
import Derived.BigQuiet
import Derived.Test.YtildgpahacaglaaGreatDoorGfold
namespace Go.Proofs.YtildgpahacaglaaGreatDoor
open Go Go.Proofs Go.RowKit Go.Lib

/-- What a slice of groups stands for. -/
noncomputable def readG (W : World) (v : Value) : Nat := match v with
  | .slice (some ⟨g, o, none⟩) n _ => valG ((List.range n).map fun j => match W.cell? ⟨g, o + j, none⟩ with | some (.int _ q) => q.toNat | _ => 0)
  | _ => 0
theorem readG_nat {W : World} {ad : Option Addr} {m c n : Nat} (h : NatAt W ad m c n) : readG W (.slice ad m c) = n := by
  obtain ⟨hm, _, _, h3⟩ := h
  have hv := valG_grps n
  generalize grps n = l at *
  rcases h3 with rfl | ⟨g, o, rfl, _, hn⟩
  · simp at hm; subst hm
    rw [← hv]
    cases ad with
    | none => rfl
    | some p => obtain ⟨b, o, q⟩ := p; cases q <;> simp [readG, valG]
  · unfold readG
    simp only
    have : (List.range m).map (fun j => match W.cell? ⟨g, o + j, none⟩ with | some (.int _ q) => q.toNat | _ => 0) = l := by
      apply List.ext_getElem
      · simp [hm]
      · intro i h1 h2
        have := hn i h2
        simp [this, List.getD_eq_getElem?_getD, h2]
    rw [this, hv]

set_option maxRecDepth 100000 in
set_option maxHeartbeats 8000000 in
theorem gcd_any3 (x y : Nat) (ad1 ad2 : Option Addr) (c1 c2 n1 n2 : Nat) (w : World) (h1 : NatAt w ad1 n1 c1 x) (h2 : NatAt w ad2 n2 c2 y) (hn1 : n1 ≤ 900) (hn2 : n2 ≤ 900) (hR : Ready w) :
    Calls Tryz.prog 58 #[.slice ad1 n1 c1, .slice ad2 n2 c2] w (NatPost w (Nat.gcd x y)) := by
  obtain ⟨R, hRd⟩ : ∃ R, Nat.gcd x y = R := ⟨_, rfl⟩
  rw [hRd]
  have H1 := Lib.hid h1; have H2 := Lib.hid h2; have HR := Lib.hid hR; have HRD := Lib.hid hRd
  clear h1 h2 hR hRd
  go_enter Tryz.func58, Tryz.ntmps58
  go_wp2_with fail
  go_loopw [0, 1] (fun va vb wr => ∃ (a b : Nat) (ad1 ad2 : Option Addr) (c1 c2 m1 m2 : Nat), va = .slice ad1 m1 c1 ∧ vb = .slice ad2 m2 c2 ∧ Hid (NatAt wr ad1 m1 c1 a) ∧ Hid (NatAt wr ad2 m2 c2 b) ∧ m1 ≤ 900 ∧ m2 ≤ 900 ∧ Hid (Nat.gcd a b = R) ∧ Hid (Below w.heap.size w wr)) (fun _ vb wr => readG wr vb)
  case atStart => exact ⟨x, y, ad1, ad2, c1, c2, n1, n2, rfl, rfl, H1.out, H2.out, hn1, hn2, HRD.out, Below.refl _ _⟩
  case round =>
    obtain ⟨a, b, d1, d2, k1, k2, m1, m2, rfl, rfl, ha, hb, hm1, hm2, hg, hbr⟩ := hrel
    by_cases h4 : 4 < m2
    · have h4i : (4 : Int) < (m2 : Int) := by omega
      have hb0 : 0 < b := by
        rcases Nat.eq_zero_or_pos b with h | h
        · subst h; have := hb.out.1; rw [grps_zero] at this; simp at this; omega
        · exact h
      have cd := divide_any a b hb0 d1 d2 k1 k2 m1 m2 wr ha.out hb.out hm1 hm2
      have hrb : a % b < b := Nat.mod_lt _ hb0
      have hgn : Nat.gcd b (a % b) = R := by rw [← hg.out, Nat.gcd_comm a b, Nat.gcd_rec b a, Nat.gcd_comm]
      have hmr := readG_nat hb.out
      obtain ⟨r, hr⟩ : ∃ r, a % b = r := ⟨_, rfl⟩
      rw [hr] at cd hrb hgn
      have CD := Lib.hid cd; have HGN := Lib.hid hgn; have HMR := Lib.hid hmr
      clear cd hgn hmr hg hr ha
      go_wp2_with fail
      refine CD.out.mono ?_
      rintro e w1 ⟨a1, q1, s1, a2, q2, s2, rfl, _, hn2, b1⟩
      have hbn := hb.out.below b1 (Nat.le_refl _)
      have hs2 : s2 ≤ 900 := by
        have h1 := hn2.1
        have h2 := hb.out.1
        have := grps_length_le m2 r (Nat.lt_trans hrb ((grps_length_iff m2 b).1 (by rw [h2]; exact Nat.le_refl _)))
        omega
      have hmr2 := readG_nat hn2
      have HN2 := Lib.hid hn2; have HBN := Lib.hid hbn; have HB1 := Lib.hid (below_of hbr.out b1); have HMR2 := Lib.hid hmr2
      clear hn2 hbn b1 hb hbr hmr2 CD
      go_wp2_with fail
      go_roundw
      case rel => exact ⟨b, r, d2, a2, k2, q2, m2, s2, rfl, rfl, HBN.out, HN2.out, hm2, hs2, HGN.out, HB1.out⟩
      case measure => rw [HMR.out, HMR2.out]; exact hrb
    · have h4i : ¬ (4 : Int) < (m2 : Int) := by omega
      by_cases hz : m2 = 0
      · subst hz
        have hb0 : b = 0 := by
          rcases Nat.eq_zero_or_pos b with h | h
          · exact h
          · have := hb.out.1; rw [grps_pos (by omega)] at this; simp at this
        subst hb0
        have hgr : a = R := by rw [← hg.out, Nat.gcd_zero_right]
        subst hgr
        clear hb hg
        go_wp2_with fail
        go_ret
        exact ⟨d1, k1, m1, rfl, ha.out.1, ha.out.2, hbr.out⟩
      · have hzi : ((m2 : Int) == 0) = false := by rw [beq_eq_false_iff_ne]; omega
        have hb0 : 0 < b := by
          rcases Nat.eq_zero_or_pos b with h | h
          · subst h; have := hb.out.1; rw [grps_zero] at this; simp at this; omega
          · exact h
        have cd := divide_any a b hb0 d1 d2 k1 k2 m1 m2 wr ha.out hb.out hm1 hm2
        have hrb : a % b < b := Nat.mod_lt _ hb0
        have hgn : Nat.gcd b (a % b) = R := by rw [← hg.out, Nat.gcd_comm a b, Nat.gcd_rec b a, Nat.gcd_comm]
        have hb16 : b < 10000000000000000 := word_lt (by rw [hb.out.1]; omega)
        obtain ⟨r, hr⟩ : ∃ r, a % b = r := ⟨_, rfl⟩
        rw [hr] at cd hrb hgn
        have CD := Lib.hid cd; have HGN := Lib.hid hgn
        clear cd hgn hg hr ha
        go_wp2_with fail
        refine CD.out.mono ?_
        rintro e w1 ⟨a1, q1, s1, a2, q2, s2, rfl, _, hn2, b1⟩
        have hbn := hb.out.below b1 (Nat.le_refl _)
        have hs2 : s2 ≤ 4 := by
          have h1 := hn2.1
          have h2 := hb.out.1
          have := grps_length_le m2 r (Nat.lt_trans hrb ((grps_length_iff m2 b).1 (by rw [h2]; exact Nat.le_refl _)))
          omega
        have cw1 := word_any b d2 k2 m2 w1 hbn (by omega)
        have cw2 := fun W (bb : Below w1.heap.size w1 W) => word_any r a2 q2 s2 W (hn2.below bb (Nat.le_refl _)) hs2
        have CW1 := Lib.hid cw1; have CW2 := Lib.hid cw2; have HB1 := Lib.hid (below_of hbr.out b1)
        clear cw1 cw2 hn2 hbn b1 hb hbr CD
        go_wp2_with fail
        refine CW1.out.mono ?_
        rintro e w2 ⟨rfl, b2⟩
        have cw2 := CW2.out w2 b2
        have HC2 := Lib.hid cw2; have HB2 := Lib.hid (below_of HB1.out b2)
        clear cw2 b2 HB1 CW2 CW1
        go_wp2_with fail
        refine HC2.out.mono ?_
        rintro e w3 ⟨rfl, b3⟩
        have HB3 := Lib.hid (below_of HB2.out b3)
        clear b3 HB2 HC2
        go_wp2_with fail
        go_loopw [9, 10] (fun va vb wr => ∃ (p q k : Nat), va = .int .i64 (p : Int) ∧ vb = .int .i64 (q : Int) ∧ p < 10000000000000000 ∧ q < 10000000000000000 ∧ Hid (Nat.gcd p q = R) ∧ wr = w3.drewN k) (fun _ vb _ => (RowKit.intOf vb).toNat)
        case atStart => exact ⟨b, r, 0, rfl, rfl, hb16, by omega, HGN.out, rfl⟩
        case round =>
          obtain ⟨p, q, k, rfl, rfl, hp, hq, hgpq, rfl⟩ := hrel
          by_cases hq0 : q = 0
          · subst hq0
            have hpR : p = R := by rw [← hgpq.out, Nat.gcd_zero_right]
            subst hpR
            have hb9 : Below w.heap.size w (w3.drewN k) := below_drewN HB3.out k
            have hrd : Ready (w3.drewN k) := HR.out.below hb9
            have ci := strconv_Itoa (p : Int) (by omega) (by omega) (w3.drewN k) hrd
            rw [itoa_textI] at ci
            have hti : textI (p : Int) = byteL (textN p) := by unfold textI; rw [if_neg (by omega), Int.natAbs_natCast]; rfl
            have hbt : bytesL (byteL (textN p)) = textN p := bytesL_byteL (textN_lt p)
            have hv : valD (digT (textN p)) = p := (textN_plain (Nat.lt_trans hp (by decide))).2
            have hsz : (byteL (textN p)).size ≤ 1000 := by
              rw [byteL_size]
              have := textN_len_le (n := p) (c := 4) (by simpa using hp)
              omega
            have cn := fun W => naturalOf_any (byteL (textN p)) (by rw [hbt]; exact textN_dig p) hsz W
            rw [hbt, hv] at cn
            rw [hti] at ci
            obtain ⟨T, hT⟩ : ∃ T, byteL (textN p) = T := ⟨_, rfl⟩
            rw [hT] at ci cn
            have CI := Lib.hid ci; have CN := Lib.hid cn; have HB9 := Lib.hid hb9
            clear ci cn hb9 hrd hti hbt hv hsz hT hgpq
            go_wp2_with fail
            refine CI.out.mono ?_
            rintro e w4 ⟨rfl, kk, os, rfl⟩
            have hb10 := below_of HB9.out (Lib.below_grow _ _ (Nat.le_refl _) kk os)
            have hb11 : Below w.heap.size w («Sort».grow (w3.drewN (k + kk)) os) := by simpa using hb10
            have HB10 := Lib.hid hb11
            clear hb10 hb11
            go_wp2_with fail
            refine (CN.out _).mono ?_
            rintro e w5 hpost
            have HP := Lib.hid (hpost.on HB10.out)
            obtain ⟨a9, c9, m9, rfl, hm9, hh9⟩ := hpost
            clear hh9
            go_wp2_with fail
            go_ret
            exact HP.out
          · have hqi : (0 : Int) < (q : Int) := by omega
            have hqn : (q : Int) ≠ 0 := by omega
            have hrem : Int.tmod (p : Int) (q : Int) = ((p % q : Nat) : Int) := by rw [Int.tmod_eq_emod_of_nonneg (by omega)]; omega
            have hmq : p % q < q := Nat.mod_lt _ (by omega)
            have hgn : Nat.gcd q (p % q) = R := by rw [← hgpq.out, Nat.gcd_comm p q, Nat.gcd_rec q p, Nat.gcd_comm]
            obtain ⟨rr, hrr⟩ : ∃ r, p % q = r := ⟨_, rfl⟩
            rw [hrr] at hrem hmq hgn
            have hwr : IntKind.i64.wrap (rr : Int) = (rr : Int) := IntWalk.i64_in _ (by omega)
            have HGN2 := Lib.hid hgn
            clear hgn hrr hgpq
            go_wp2_with fail
            go_quiet (fail)
            go_wp2
            go_roundw
            case rel => exact ⟨q, rr, k + nq, rfl, rfl, hq, by omega, HGN2.out, by simp⟩
            case measure => simp [RowKit.intOf]; omega
end Go.Proofs.YtildgpahacaglaaGreatDoor

namespace Go.Proofs.YtildgpahacaglaaGreatDoor
open Go Go.Proofs Go.RowKit Go.Lib

theorem len_followed {n d m : Nat} (h : (grps n).length ≤ m) (hd : d < 10000) : (grps (d + 10000 * n)).length ≤ m + 1 := by
  apply grps_length_le
  have h1 := (grps_length_iff m n).1 h
  rw [Nat.pow_succ]
  generalize 10000 ^ m = p at *
  omega
theorem len_times {n f m : Nat} (h : (grps n).length ≤ m) (hf : f < 10000) : (grps (n * f)).length ≤ m + 1 := by
  apply grps_length_le
  have h1 := (grps_length_iff m n).1 h
  rw [Nat.pow_succ]
  generalize 10000 ^ m = p at *
  have h2 : n * f ≤ n * 10000 := Nat.mul_le_mul_left _ (by omega)
  omega

set_option maxRecDepth 100000 in
set_option maxHeartbeats 4000000 in
theorem growth_any (t g : Nat) (hg : g < 10000) (ad : Option Addr) (c m B : Nat) (w : World) (h : NatAt w ad m c t) (hm : m ≤ 990) (e1 : w.cell? ⟨B, 0, none⟩ = some (.slice ad m c)) :
    Calls Tryz.prog 61 #[.int .i64 ((g : Nat) : Int), .pointer (some ⟨B, 0, none⟩)] w (NatPost w ((g + 10000 * t) * g)) := by
  have c1 := followed_any t g hg ad c m w h (by omega)
  have c2 := fun W ad' c' m' (hm' : (grps (g + 10000 * t)).length = m') (hh : HoldI W ad' c' (grps (g + 10000 * t))) => multiple_any (g + 10000 * t) g hg ad' c' m' W ⟨hm', hh⟩ (by have := len_followed (d := g) (Nat.le_of_eq h.1) hg; omega)
  have C1 := Lib.hid c1; have C2 := Lib.hid c2
  clear c1 c2 h
  go_enter Tryz.func61, Tryz.ntmps61
  go_wp2_with fail
  refine C1.out.mono ?_
  rintro e w1 ⟨ad1, cap1, m1, rfl, hm1, hh1, hb1⟩
  have H2 := Lib.hid (C2.out w1 _ _ _ hm1 hh1); have HB := Lib.hid hb1
  clear hh1 hb1 hm1 C1 C2
  go_wp2_with fail
  refine H2.out.mono ?_
  rintro e w2 hpost
  have HP := Lib.hid (hpost.on HB.out)
  obtain ⟨ad2, cap2, m2, rfl, hm2, hh2⟩ := hpost
  clear hm2 hh2 H2
  go_wp2_with fail
  go_ret
  exact HP.out

set_option maxRecDepth 100000 in
set_option maxHeartbeats 4000000 in
theorem fitsR_any (x t g : Nat) (hg : g < 10000) (adx adt : Option Addr) (cx ct nx nt B1 B2 B3 : Nat) (w : World) (h1 : NatAt w adx nx cx x) (h2 : NatAt w adt nt ct t) (hnt : nt ≤ 990)
    (l1 : B1 < w.heap.size) (l2 : B2 < w.heap.size) (l3 : B3 < w.heap.size) (e1 : w.cell? ⟨B1, 0, none⟩ = some (.func (.func 53) #[.slice adx nx cx] #[])) (e2 : w.cell? ⟨B2, 0, none⟩ = some (.func (.func 61) #[] #[.pointer (some ⟨B3, 0, none⟩)])) (e3 : w.cell? ⟨B3, 0, none⟩ = some (.slice adt nt ct)) :
    Calls Tryz.prog 63 #[.int .i64 ((g : Nat) : Int), .pointer (some ⟨B1, 0, none⟩), .pointer (some ⟨B2, 0, none⟩)] w fun e w' => e = .returned (.bool (!decide (x < (g + 10000 * t) * g))) ∧ Below w.heap.size w w' := by
  have c1 := fun W (b : Below w.heap.size w W) => growth_any t g hg adt ct nt B3 W (h2.below b (Nat.le_refl _)) hnt ((b.cell (p := ⟨B3, 0, none⟩) l3).trans e3)
  have c2 := fun W0 W (b0 : Below w.heap.size w W0) (b : Below W0.heap.size W0 W) ad' c' m' (hm' : (grps ((g + 10000 * t) * g)).length = m') (hh : HoldI W0 ad' c' (grps ((g + 10000 * t) * g))) =>
    less_any x ((g + 10000 * t) * g) adx ad' cx c' nx m' W (h1.below (below_of b0 b) (Nat.le_refl _)) ⟨hm', hh.below b (Nat.le_refl _)⟩
  have hkeep : ∀ W, Below w.heap.size w W → W.cell? ⟨B1, 0, none⟩ = some (.func (.func 53) #[.slice adx nx cx] #[]) ∧ W.cell? ⟨B2, 0, none⟩ = some (.func (.func 61) #[] #[.pointer (some ⟨B3, 0, none⟩)]) :=
    fun W b => ⟨(b.cell (p := ⟨B1, 0, none⟩) l1).trans e1, (b.cell (p := ⟨B2, 0, none⟩) l2).trans e2⟩
  obtain ⟨R, hR⟩ : ∃ R, decide (x < (g + 10000 * t) * g) = R := ⟨_, rfl⟩
  rw [hR] at c2
  rw [hR]
  have C1 := Lib.hid c1; have C2 := Lib.hid c2; have HK := Lib.hid hkeep
  clear c1 c2 hkeep h1 h2 hR e3
  go_enter Tryz.func63, Tryz.ntmps63
  go_wp2_with fail
  go_region_held3 (fun W => W.cell? ⟨B1, 0, none⟩ = some (.func (.func 53) #[.slice adx nx cx] #[]) ∧ W.cell? ⟨B2, 0, none⟩ = some (.func (.func 61) #[] #[.pointer (some ⟨B3, 0, none⟩)]))
    (first | exact HK.out _ ⟨rfl, rfl, rfl, Nat.le_refl _, fun _ _ => rfl⟩ | exact HK.out _ ⟨hb1.os, hb1.tape, hb1.output, hb1.size, hb1.block⟩ | exact HK.out _ ⟨hb2.os, hb2.tape, hb2.output, hb2.size, hb2.block⟩)
    (first | (go_at_call 61; (with_reducible refine (C1.out _ ?_).mono ?_); exact ⟨rfl, rfl, rfl, Nat.le_refl _, fun _ _ => rfl⟩; rintro e w1 ⟨ad1, cap1, m1, rfl, hm1, hh1, hb1'⟩; have hb1 : Below w.heap.size w w1 := ⟨hb1'.os, hb1'.tape, hb1'.output, hb1'.size, hb1'.block⟩) | (go_at_call 53; (with_reducible refine (C2.out w1 _ hb1 ?_ _ _ _ hm1 hh1).mono ?_); exact ⟨rfl, rfl, rfl, Nat.le_refl _, fun _ _ => rfl⟩; rintro e w2 ⟨rfl, hb2'⟩; have hb2 : Below w.heap.size w w2 := ⟨hb2'.os.trans hb1.os, hb2'.tape.trans hb1.tape, hb2'.output.trans hb1.output, Nat.le_trans hb1.size hb2'.size, fun k hk => (hb2'.block k (Nat.lt_of_lt_of_le hk hb1.size)).trans (hb1.block k hk)⟩))
  all_goals (
    go_wp2
    go_ret
    exact ⟨rfl, hb2⟩)

set_option maxRecDepth 100000 in
set_option maxHeartbeats 4000000 in
theorem greatest1R_any (x t low i : Nat) (hq : low + i + 1 < 10000) (adx adt : Option Addr) (cx ct nx nt B1 B2 B3 Bf Bl : Nat) (w : World) (h1 : NatAt w adx nx cx x) (h2 : NatAt w adt nt ct t) (hnt : nt ≤ 990)
    (l1 : B1 < w.heap.size) (l2 : B2 < w.heap.size) (l3 : B3 < w.heap.size) (e1 : w.cell? ⟨B1, 0, none⟩ = some (.func (.func 53) #[.slice adx nx cx] #[])) (e2 : w.cell? ⟨B2, 0, none⟩ = some (.func (.func 61) #[] #[.pointer (some ⟨B3, 0, none⟩)])) (e3 : w.cell? ⟨B3, 0, none⟩ = some (.slice adt nt ct))
    (ef : w.cell? ⟨Bf, 0, none⟩ = some (.func (.func 63) #[] #[.pointer (some ⟨B1, 0, none⟩), .pointer (some ⟨B2, 0, none⟩)])) (el : w.cell? ⟨Bl, 0, none⟩ = some (.int .i64 ((low : Nat) : Int))) :
    Calls Tryz.prog 78 #[.int .i64 ((i : Nat) : Int), .pointer (some ⟨Bf, 0, none⟩), .pointer (some ⟨Bl, 0, none⟩)] w fun e w' => e = .returned (.bool (!(!decide (x < (low + i + 1 + 10000 * t) * (low + i + 1))))) ∧ Below w.heap.size w w' := by
  have c := fun W (e : w = W) => fitsR_any x t (low + i + 1) hq adx adt cx ct nx nt B1 B2 B3 W (by rw [← e]; exact h1) (by rw [← e]; exact h2) hnt (by rw [← e]; exact l1) (by rw [← e]; exact l2) (by rw [← e]; exact l3) (by rw [← e]; exact e1) (by rw [← e]; exact e2) (by rw [← e]; exact e3)
  obtain ⟨R, hR⟩ : ∃ R, (!decide (x < (low + i + 1 + 10000 * t) * (low + i + 1))) = R := ⟨_, rfl⟩
  rw [hR] at c ⊢
  have hz : ((low + i + 1 : Nat) : Int) = (low : Int) + (i : Int) + 1 := by omega
  rw [hz] at c
  have C := Lib.hid c
  clear c h1 h2 e1 e2 e3 hR hz
  go_enter Tryz.func78, Tryz.ntmps78
  go_wp2_with fail
  refine (C.out _ rfl).mono ?_
  rintro e w1 ⟨rfl, b⟩
  go_wp2
  go_ret
  exact ⟨rfl, b⟩

theorem root_last (x t : Nat) (adx adt : Option Addr) (cx ct nx nt B1 B2 B3 : Nat) (w : World) (h1 : NatAt w adx nx cx x) (h2 : NatAt w adt nt ct t) (hnt : nt ≤ 990)
    (l1 : B1 < w.heap.size) (l2 : B2 < w.heap.size) (l3 : B3 < w.heap.size) (e1 : w.cell? ⟨B1, 0, none⟩ = some (.func (.func 53) #[.slice adx nx cx] #[])) (e2 : w.cell? ⟨B2, 0, none⟩ = some (.func (.func 61) #[] #[.pointer (some ⟨B3, 0, none⟩)])) (e3 : w.cell? ⟨B3, 0, none⟩ = some (.slice adt nt ct)) :
    Calls Tryz.prog 62 #[.int .i64 0, .int .i64 9999, .func (.func 63) #[] #[.pointer (some ⟨B1, 0, none⟩), .pointer (some ⟨B2, 0, none⟩)]] w
      fun e w' => (∃ g : Nat, (g < 10000 ∧ (g + 10000 * t) * g ≤ x ∧ (g = 9999 ∨ x < (g + 1 + 10000 * t) * (g + 1))) ∧ e = .returned (.int .i64 ((g : Nat) : Int))) ∧ Below w.heap.size w w' := by
  have hh := greatest_any 0 9999 (by omega) (by omega) (fun g => !decide (x < (g + 10000 * t) * g)) 63 #[.pointer (some ⟨B1, 0, none⟩), .pointer (some ⟨B2, 0, none⟩)] w (fun W i Bf Bl hi hb _ _ _ _ ef el =>
    greatest1R_any x t 0 i (by omega) adx adt cx ct nx nt B1 B2 B3 Bf Bl W (h1.below hb (Nat.le_refl _)) (h2.below hb (Nat.le_refl _)) hnt (Nat.lt_of_lt_of_le l1 hb.size) (Nat.lt_of_lt_of_le l2 hb.size) (Nat.lt_of_lt_of_le l3 hb.size)
      ((hb.cell (p := ⟨B1, 0, none⟩) l1).trans e1) ((hb.cell (p := ⟨B2, 0, none⟩) l2).trans e2) ((hb.cell (p := ⟨B3, 0, none⟩) l3).trans e3) ef el)
  refine Calls.mono hh ?_
  rintro e w' ⟨⟨g, ⟨g1, g2, g3, g4⟩, rfl⟩, b⟩
  refine ⟨⟨g, ⟨by omega, ?_, ?_⟩, rfl⟩, b⟩
  · rcases g3 with rfl | h
    · simp
    · simpa using h
  · rcases g4 with h | h
    · exact .inl h
    · right; simpa using h
end Go.Proofs.YtildgpahacaglaaGreatDoor

namespace Go.Proofs.YtildgpahacaglaaGreatDoor
open Go Go.Proofs Go.RowKit Go.Lib

theorem shift_two (x k : Nat) : x / 10000 ^ (2 * k) = (grps x).getD (2 * k) 0 + 10000 * (grps x).getD (2 * k + 1) 0 + 100000000 * (x / 10000 ^ (2 * (k + 1))) := by
  have h1 : ∀ j, x / 10000 ^ j = (grps x).getD j 0 + 10000 * (x / 10000 ^ (j + 1)) := by
    intro j
    have e1 := grps_shift x j
    have e2 := grps_shift x (j + 1)
    have v1 := valG_grps (x / 10000 ^ j)
    have v2 := valG_grps (x / 10000 ^ (j + 1))
    rw [← e1] at v1
    rw [← e2] at v2
    rcases Nat.lt_or_ge j (grps x).length with h | h
    · rw [valG_drop_cons h] at v1
      omega
    · rw [List.drop_of_length_le h] at v1
      rw [List.drop_of_length_le (by omega)] at v2
      rw [List.getD_eq_getElem?_getD, List.getElem?_eq_none h]
      simp [valG] at v1 v2
      simp
      omega
  have a := h1 (2 * k)
  have b := h1 (2 * k + 1)
  rw [show 2 * k + 1 + 1 = 2 * (k + 1) by omega] at b
  omega

set_option maxRecDepth 100000 in
set_option maxHeartbeats 16000000 in
theorem root_any3 (x : Nat) (ad : Option Addr) (c nx : Nat) (w : World) (h : NatAt w ad nx c x) (hn : nx ≤ 900) :
    Calls Tryz.prog 43 #[.slice ad nx c] w fun e w' => ∃ r, (r * r ≤ x ∧ x < (r + 1) * (r + 1)) ∧ NatPost w r e w' := by
  have hxl := (grps_length_iff nx x).1 (Nat.le_of_eq h.1)
  have hst : RootGInv (x / 10000 ^ (2 * ((nx + 1) / 2))) 0 0 := by
    rw [Nat.div_eq_of_lt (Nat.lt_of_lt_of_le hxl (Nat.pow_le_pow_right (by decide) (by omega)))]
    exact rootG_zero
  have hi0 : Int.tdiv ((nx : Int) + 1) 2 = (((nx + 1) / 2 : Nat) : Int) := by rw [Int.tdiv_eq_ediv_of_nonneg (by omega)]; omega
  obtain ⟨k0, hk0⟩ : ∃ k, (nx + 1) / 2 = k := ⟨_, rfl⟩
  rw [hk0] at hst hi0
  have hw1 : IntKind.i64.wrap ((nx : Int) + 1) = (nx : Int) + 1 := IntWalk.i64_in _ (by omega)
  have hw2 : IntKind.i64.wrap (k0 : Int) = (k0 : Int) := IntWalk.i64_in _ (by omega)
  have hw3 : IntKind.i64.wrap ((k0 : Int) * 2) = ((2 * k0 : Nat) : Int) := by rw [IntWalk.i64_in _ (by omega)]; omega
  obtain ⟨i0, hi00⟩ : ∃ i, 2 * k0 = i := ⟨_, rfl⟩
  rw [hi00] at hw3
  have H := Lib.hid h; have HXL := Lib.hid hxl; have HST := Lib.hid hst; have HI0 := Lib.hid hi00
  clear h hxl hst hi00
  go_enter Tryz.func43, Tryz.ntmps43
  go_wp2_with fail
  go_loopw [3, 4, 5] (fun vr vs vi wr => ∃ (k i r s : Nat) (ad1 ad2 : Option Addr) (c1 c2 m1 m2 : Nat), vr = .slice ad1 m1 c1 ∧ vs = .slice ad2 m2 c2 ∧ vi = .int .i64 ((i : Nat) : Int) ∧ Hid (2 * k = i) ∧ i ≤ nx + 1 ∧ Hid (NatAt wr ad1 m1 c1 r) ∧ Hid (NatAt wr ad2 m2 c2 s) ∧ Hid (RootGInv (x / 10000 ^ (2 * k)) r s) ∧ Hid (Below w.heap.size w wr)) (fun _ _ vi _ => (RowKit.intOf vi).toNat)
  case atStart => exact ⟨k0, i0, 0, 0, none, none, 0, 0, 0, 0, rfl, rfl, rfl, HI0.out, by have := HI0.out; omega, ⟨rfl, HoldI.nil _ _ _⟩, ⟨rfl, HoldI.nil _ _ _⟩, HST.out, Below.refl _ _⟩
  case round =>
    obtain ⟨k, i, r, s, a1, a2, k1, k2, m1, m2, rfl, rfl, rfl, hki, hin, hr, hs, hri, hbr⟩ := hrel
    have hnr : RootGInv (x / 10000 ^ (2 * k)) r s := hri.out
    have hq : x / 10000 ^ (2 * k) ≤ x := Nat.div_le_self _ _
    have hrx : r < 10000 ^ nx := by
      have h1 := HXL.out
      have h2 : r ≤ r * r := Nat.le_mul_self r
      have := hnr.1
      omega
    have hsx : s < 10000 ^ nx := by
      have h1 := HXL.out
      have := hnr.1
      omega
    have hrl : m1 ≤ nx := by have := grps_length_le nx r hrx; have := hr.out.1; omega
    have hsl : m2 ≤ nx := by have := grps_length_le nx s hsx; have := hs.out.1; omega
    clear hrx hsx hq hnr
    by_cases hi : i = 0
    · subst hi
      obtain rfl : k = 0 := by have := hki.out; omega
      have hE := rootG_end hri.out
      rw [Nat.mul_zero, Nat.pow_zero, Nat.div_one] at hE
      have HE := Lib.hid hE
      clear hE hri hki
      go_wp2_with fail
      go_ret
      exact ⟨r, HE.out, a1, k1, m1, rfl, hr.out.1, hr.out.2, hbr.out⟩
    · obtain ⟨k', rfl⟩ : ∃ k', k = k' + 1 := ⟨k - 1, by have := hki.out; omega⟩
      have hki2 : 2 * k' + 2 = i := by have := hki.out; omega
      have hip : (0 : Int) < (i : Int) := by omega
      have hw4 : IntKind.i64.wrap ((i : Int) - 1) = (i : Int) - 1 := IntWalk.i64_in _ (by omega)
      have hw5 : IntKind.i64.wrap ((i : Int) - 2) = (i : Int) - 2 := IntWalk.i64_in _ (by omega)
      obtain ⟨l, hl⟩ : ∃ l, grps x = l := ⟨_, rfl⟩
      have hx1 := H.out.1
      have hx2 := H.out.2
      have hg := grps_lt x
      have hsh := shift_two x k'
      rw [hl] at hx1 hx2 hg hsh
      obtain ⟨ga, oa, rfl, hga, hsa⟩ := hx2.at (by omega)
      obtain ⟨f, hf⟩ : ∃ f, l.getD (2 * k' + 1) 0 = f := ⟨_, rfl⟩
      obtain ⟨f2, hf2⟩ : ∃ f, l.getD (2 * k') 0 = f := ⟨_, rfl⟩
      have hfl := getG_grp hg (2 * k' + 1)
      have hfl2 := getG_grp hg (2 * k')
      rw [hf] at hfl hsh
      rw [hf2] at hfl2 hsh
      have hj2 := fun w => atN ga oa nx c (2 * k') ((i : Int) - 2) (by omega) (by omega) w
      have hcell2 := hsa (2 * k') (by omega)
      rw [hf2] at hcell2
      have hfirst : ((i : Int) ≤ (nx : Int) ∧ (∀ w, (Instr.indexAt 45 (.slice (some ⟨ga, oa, none⟩) nx c) (.int .i64 ((i : Int) - 1))).run Tryz.prog w = .ok (.pointer (some ⟨ga, oa + (2 * k' + 1), none⟩)) w) ∧ wr.cell? ⟨ga, oa + (2 * k' + 1), none⟩ = some (.int .i64 (f : Int))) ∨ (¬ (i : Int) ≤ (nx : Int) ∧ f = 0) := by
        by_cases hle : i ≤ nx
        · left
          refine ⟨by omega, fun w => atN ga oa nx c (2 * k' + 1) ((i : Int) - 1) (by omega) (by omega) w, ?_⟩
          have := hsa (2 * k' + 1) (by omega)
          rw [hf] at this
          exact (hbr.out.cell (p := ⟨ga, oa + (2 * k' + 1), none⟩) hga).trans this
        · right
          refine ⟨by omega, ?_⟩
          rw [← hf, List.getD_eq_getElem?_getD, List.getElem?_eq_none (by omega)]
          rfl
      have hkeep : ∀ W, Below wr.heap.size wr W → W.cell? ⟨ga, oa + 2 * k', none⟩ = some (.int .i64 (f2 : Int)) := fun W b => ((below_of hbr.out b).cell (p := ⟨ga, oa + 2 * k', none⟩) hga).trans hcell2
      have k1' : ∀ W, Below wr.heap.size wr W → ∀ z : Int, z = (f : Nat) → Calls Tryz.prog 59 #[.slice a2 m2 k2, .int .i64 z] W (NatPost W (f + 10000 * s)) := fun W b z hz => by
        subst hz
        exact followed_any s f hfl a2 k2 m2 W (hs.out.below b (Nat.le_refl _)) (by omega)
      have k2' := fun W0 W (b : Below W0.heap.size W0 W) ad' c' m' (hm' : (grps (f + 10000 * s)).length = m') (hh : HoldI W0 ad' c' (grps (f + 10000 * s))) => followed_any (f + 10000 * s) f2 hfl2 ad' c' m' W ⟨hm', hh.below b (Nat.le_refl _)⟩ (by have := len_followed (d := f) (Nat.le_of_eq hs.out.1) hfl; omega)
      obtain ⟨S, hS⟩ : ∃ S, f2 + 10000 * (f + 10000 * s) = S := ⟨_, rfl⟩
      rw [hS] at k2'
      have hSl : (grps S).length ≤ m2 + 2 := by rw [← hS]; exact len_followed (len_followed (Nat.le_of_eq hs.out.1) hfl) hfl2
      have hSe : f2 + 10000 * f + 100000000 * s = S := by omega
      have hstep := fun g hg' (h1 : (g + 10000 * (2 * r)) * g ≤ S) (h2 : g = 9999 ∨ S < ((g + 1) + 10000 * (2 * r)) * (g + 1)) => rootG_step (low := f2 + 10000 * f) (g := g) hri.out (by omega) hg' (by rw [hSe]; exact h1) (by rw [hSe]; exact h2)
      rw [hSe, ← hsh] at hstep
      have km := fun W0 (b0 : Below wr.heap.size wr W0) => multiple_any r 2 (by omega) a1 k1 m1 W0 (hr.out.below b0 (Nat.le_refl _)) (by omega)
      rw [show ((2 : Nat) : Int) = 2 from rfl, Nat.mul_comm r 2] at km
      obtain ⟨T, hT⟩ : ∃ T, 2 * r = T := ⟨_, rfl⟩
      rw [hT] at km hstep
      have hTl : (grps T).length ≤ m1 + 1 := by rw [← hT, Nat.mul_comm]; exact len_times (Nat.le_of_eq hr.out.1) (by omega)
      have hrel5 : ((i : Int) - 2) = ((i - 2 : Nat) : Int) ∧ 2 * k' = i - 2 ∧ i - 2 ≤ nx + 1 := ⟨by omega, by omega, by omega⟩
      have HR5 := Lib.hid hrel5
      clear hrel5
      have HKI := Lib.hid hki2; have K1 := Lib.hid k1'; have K2 := Lib.hid k2'; have KM := Lib.hid km; have HK := Lib.hid hkeep; have HSL := Lib.hid hSl; have HTL := Lib.hid hTl; have HSTEP := Lib.hid hstep
      clear k1' k2' km hkeep hSl hTl hstep hS hSe hT hsh hcell2 hf hf2 hx1 hx2 hl hsa hri hki hi hki2
      rcases hfirst with ⟨hle, hj1, hcell1⟩ | ⟨hle, hf0⟩
      all_goals (
        try (have HF0 := Lib.hid hf0; clear hf0)
        go_wp2_with fail
        go_region_held3 (fun W => W.cell? ⟨ga, oa + 2 * k', none⟩ = some (.int .i64 (f2 : Int)))
          (first | exact HK.out _ ⟨rfl, rfl, rfl, Nat.le_refl _, fun _ _ => rfl⟩ | exact HK.out _ ⟨hb1.os, hb1.tape, hb1.output, hb1.size, hb1.block⟩ | exact HK.out _ ⟨hb2.os, hb2.tape, hb2.output, hb2.size, hb2.block⟩)
          (first | (go_at_call 59; (with_reducible refine (K1.out _ ?_ _ ?_).mono ?_); exact ⟨rfl, rfl, rfl, Nat.le_refl _, fun _ _ => rfl⟩; (first | rfl | (rw [HF0.out]; rfl)); (rintro e w1 ⟨ad1, cap1, q1, rfl, hm1, hh1, hb1'⟩); have hb1 : Below wr.heap.size wr w1 := ⟨hb1'.os, hb1'.tape, hb1'.output, hb1'.size, hb1'.block⟩) | (go_at_call 59; (with_reducible refine (K2.out w1 _ ?_ _ _ _ hm1 hh1).mono ?_); exact ⟨rfl, rfl, rfl, Nat.le_refl _, fun _ _ => rfl⟩; rintro e w2 ⟨ad2, cap2, q2, rfl, hm2, hh2, hb2'⟩; have hb2 : Below wr.heap.size wr w2 := below_of hb1 ⟨hb2'.os, hb2'.tape, hb2'.output, hb2'.size, hb2'.block⟩))
        all_goals (
          have hs' : NatAt w2 ad2 q2 cap2 S := ⟨hm2, hh2⟩
          have hq2 : q2 ≤ 902 := by have := HSL.out; omega
          have HS2 := Lib.hid hs'; have HB2 := Lib.hid hb2; have CM := Lib.hid (KM.out w2 hb2)
          clear hb1 hb1' hb2 hb2' hm1 hh1 hm2 hh2 hs'
          go_wp2_with fail
          refine CM.out.mono ?_
          rintro e w3 ⟨ad3, cap3, q3, rfl, hm3, hh3, hb3⟩
          have hq3 : q3 ≤ 901 := by have := HTL.out; omega
          obtain ⟨W4, hW4⟩ : ∃ W4, ((w3.alloc (.cells #[.slice ad3 q3 cap3] 45)).alloc (.cells #[.func (.func 61) #[] #[.pointer (some ⟨w3.heap.size, 0, none⟩)]] 76)).alloc (.cells #[.func (.func 53) #[.slice ad2 q2 cap2] #[]] 70) = W4 := ⟨_, rfl⟩
          have hb4 : Below w3.heap.size w3 W4 := by rw [← hW4]; exact (((Below.refl _ _).alloc (Nat.le_refl _) _).alloc (by simp) _).alloc (by simp; omega) _
          have x1 : Boxed W4 w3.heap.size 45 (.slice ad3 q3 cap3) := by rw [← hW4]; exact ((Boxed.new w3 _ _).alloc _).alloc _
          have x2 : Boxed W4 (w3.heap.size + 1) 76 (.func (.func 61) #[] #[.pointer (some ⟨w3.heap.size, 0, none⟩)]) := by
            rw [← hW4]
            have := Boxed.new (w3.alloc (.cells #[.slice ad3 q3 cap3] 45)) 76 (.func (.func 61) #[] #[.pointer (some ⟨w3.heap.size, 0, none⟩)])
            rw [World.size_alloc] at this
            exact this.alloc _
          have x3 : Boxed W4 (w3.heap.size + 2) 70 (.func (.func 53) #[.slice ad2 q2 cap2] #[]) := by
            rw [← hW4]
            have := Boxed.new ((w3.alloc (.cells #[.slice ad3 q3 cap3] 45)).alloc (.cells #[.func (.func 61) #[] #[.pointer (some ⟨w3.heap.size, 0, none⟩)]] 76)) 70 (.func (.func 53) #[.slice ad2 q2 cap2] #[])
            rw [World.size_alloc, World.size_alloc] at this
            exact this
          have b4 := below_of (below_of HB2.out hb3) hb4
          have hs4 := (HS2.out.below hb3 (Nat.le_refl _)).below hb4 (Nat.le_refl _)
          have ht4 : NatAt W4 ad3 q3 cap3 T := ⟨hm3, hh3.below hb4 (Nat.le_refl _)⟩
          have cl := root_last S T ad2 ad3 cap2 cap3 q2 q3 (w3.heap.size + 2) (w3.heap.size + 1) w3.heap.size W4 hs4 ht4 (by omega) x3.lt x2.lt x1.lt x3.cell x2.cell x1.cell
          have hst1 : ∀ u, (store ⟨w3.heap.size + 1, 0, none⟩ (.func (.func 61) #[] #[.pointer (some ⟨w3.heap.size, 0, none⟩)])).run Tryz.prog ((w3.alloc (.cells #[.slice ad3 q3 cap3] 45)).alloc (.cells #[u] 76)) = .ok () ((w3.alloc (.cells #[.slice ad3 q3 cap3] 45)).alloc (.cells #[.func (.func 61) #[] #[.pointer (some ⟨w3.heap.size, 0, none⟩)]] 76)) := fun u => by
            have := store_new (w3.alloc (.cells #[.slice ad3 q3 cap3] 45)) (.func (.func 61) #[] #[.pointer (some ⟨w3.heap.size, 0, none⟩)]) u 76 rfl
            rw [World.size_alloc] at this
            exact this
          have hst2 : ∀ u, (store ⟨w3.heap.size + 2, 0, none⟩ (.func (.func 53) #[.slice ad2 q2 cap2] #[])).run Tryz.prog (((w3.alloc (.cells #[.slice ad3 q3 cap3] 45)).alloc (.cells #[.func (.func 61) #[] #[.pointer (some ⟨w3.heap.size, 0, none⟩)]] 76)).alloc (.cells #[u] 70)) = .ok () (((w3.alloc (.cells #[.slice ad3 q3 cap3] 45)).alloc (.cells #[.func (.func 61) #[] #[.pointer (some ⟨w3.heap.size, 0, none⟩)]] 76)).alloc (.cells #[.func (.func 53) #[.slice ad2 q2 cap2] #[]] 70)) := fun u => by
            have := store_new ((w3.alloc (.cells #[.slice ad3 q3 cap3] 45)).alloc (.cells #[.func (.func 61) #[] #[.pointer (some ⟨w3.heap.size, 0, none⟩)]] 76)) (.func (.func 53) #[.slice ad2 q2 cap2] #[]) u 70 rfl
            rw [World.size_alloc, World.size_alloc] at this
            exact this
          have HW4 := Lib.hid hW4; have CL := Lib.hid cl; have X1 := Lib.hid x1; have X2 := Lib.hid x2; have B4 := Lib.hid b4; have HS4 := Lib.hid hs4; have HT4 := Lib.hid ht4
          clear hW4 cl x1 x2 x3 b4 hs4 ht4 hb4 hm3 hh3 hb3 CM
          go_wp2_with fail
          rw [HW4.out]
          refine CL.out.mono ?_
          rintro e w5 ⟨⟨g, ⟨hg1, hg2, hg3⟩, rfl⟩, hb5⟩
          have bb := fun W (b : Below w5.heap.size w5 W) => below_of hb5 b
          have hkp : ∀ W, Below w5.heap.size w5 W → W.cell? ⟨w3.heap.size + 1, 0, none⟩ = some (.func (.func 61) #[] #[.pointer (some ⟨w3.heap.size, 0, none⟩)]) := fun W b => ((bb W b).cell (p := ⟨w3.heap.size + 1, 0, none⟩) X2.out.lt).trans X2.out.cell
          have kF := fun W (b : Below w5.heap.size w5 W) => followed_any r g hg1 a1 k1 m1 W (hr.out.below (below_of B4.out (bb W b)) (Nat.le_refl _)) (by omega)
          have kG := fun W (b : Below w5.heap.size w5 W) => growth_any T g hg1 ad3 cap3 q3 w3.heap.size W (HT4.out.below (bb W b) (Nat.le_refl _)) (by omega) (((bb W b).cell (p := ⟨w3.heap.size, 0, none⟩) X1.out.lt).trans X1.out.cell)
          have kP := fun W0 W (b0 : Below w5.heap.size w5 W0) (b : Below W0.heap.size W0 W) ad' c' m' (hm' : (grps ((g + 10000 * T) * g)).length = m') (hh : HoldI W0 ad' c' (grps ((g + 10000 * T) * g))) =>
            plus_any3 S ((g + 10000 * T) * g) (S - (g + 10000 * T) * g) (-1) (by omega) (by omega) (by omega) ad2 ad' cap2 c' q2 m' W (HS4.out.below (bb W (below_of b0 b)) (Nat.le_refl _)) ⟨hm', hh.below b (Nat.le_refl _)⟩ (by omega) (by have := len_times (f := g) (len_followed (d := g) (Nat.le_of_eq HT4.out.1) hg1) hg1; omega)
          have hinv := HSTEP.out g hg1 hg2 hg3
          obtain ⟨D, hD⟩ : ∃ D, S - (g + 10000 * T) * g = D := ⟨_, rfl⟩
          obtain ⟨R2, hR2⟩ : ∃ D, g + 10000 * r = D := ⟨_, rfl⟩
          obtain ⟨GG, hGG⟩ : ∃ D, (g + 10000 * T) * g = D := ⟨_, rfl⟩
          rw [hD] at kP hinv
          rw [hR2] at kF hinv
          rw [hGG] at kG kP
          have KF := Lib.hid kF; have KG := Lib.hid kG; have KP := Lib.hid kP; have HKP := Lib.hid hkp; have HINV := Lib.hid hinv; have B5 := Lib.hid (below_of (below_of hbr.out B4.out) hb5)
          clear kF kG kP hkp hinv bb hb5 hD hR2 hGG hg2 hg3 CL HW4
          go_wp2_with fail
          go_region_held3 (fun W => W.cell? ⟨w3.heap.size + 1, 0, none⟩ = some (.func (.func 61) #[] #[.pointer (some ⟨w3.heap.size, 0, none⟩)]))
            (first | exact HKP.out _ ⟨rfl, rfl, rfl, Nat.le_refl _, fun _ _ => rfl⟩ | exact HKP.out _ hbF | exact HKP.out _ hbG | exact HKP.out _ hbP)
            (first | (go_at_call 59; (with_reducible refine (KF.out _ ?_).mono ?_); (first | exact ⟨rfl, rfl, rfl, Nat.le_refl _, fun _ _ => rfl⟩ | exact hbP | exact hbG); (rintro e wF ⟨adF, cF, qF, rfl, hmF, hhF, hbF'⟩); (first | (have hbF := below_of hbP ⟨hbF'.os, hbF'.tape, hbF'.output, hbF'.size, hbF'.block⟩) | (have hbF := below_of hbG ⟨hbF'.os, hbF'.tape, hbF'.output, hbF'.size, hbF'.block⟩) | (have hbF : Below w5.heap.size w5 wF := ⟨hbF'.os, hbF'.tape, hbF'.output, hbF'.size, hbF'.block⟩))) | (go_at_call 61; (with_reducible refine (KG.out _ ?_).mono ?_); (first | exact ⟨rfl, rfl, rfl, Nat.le_refl _, fun _ _ => rfl⟩ | exact hbF); (rintro e wG ⟨adG, cG, qG, rfl, hmG, hhG, hbG'⟩); (first | (have hbG := below_of hbF ⟨hbG'.os, hbG'.tape, hbG'.output, hbG'.size, hbG'.block⟩) | (have hbG : Below w5.heap.size w5 wG := ⟨hbG'.os, hbG'.tape, hbG'.output, hbG'.size, hbG'.block⟩))) | (go_at_call 52; (with_reducible refine (KP.out wG _ hbG ?_ _ _ _ hmG hhG).mono ?_); (first | exact ⟨rfl, rfl, rfl, Nat.le_refl _, fun _ _ => rfl⟩ | exact hbF'); (rintro e wP ⟨adP, cP, qP, rfl, hmP, hhP, hbP'⟩); (first | (have hbP := below_of (below_of hbG hbF') ⟨hbP'.os, hbP'.tape, hbP'.output, hbP'.size, hbP'.block⟩) | (have hbP := below_of hbG ⟨hbP'.os, hbP'.tape, hbP'.output, hbP'.size, hbP'.block⟩))))
          all_goals (
            have hrel : NatAt wP adF qF cF R2 := ⟨hmF, hhF.below (below_of (show Below wF.heap.size wF wG from ⟨hbG'.os, hbG'.tape, hbG'.output, hbG'.size, hbG'.block⟩) (show Below wG.heap.size wG wP from ⟨hbP'.os, hbP'.tape, hbP'.output, hbP'.size, hbP'.block⟩)) (Nat.le_refl _)⟩
            have hrel2 : NatAt wP adP qP cP D := ⟨hmP, hhP⟩
            have HR1 := Lib.hid hrel; have HR2 := Lib.hid hrel2; have HBP := Lib.hid (below_of B5.out hbP)
            clear hrel hrel2 hbP hbP' hbG hbG' hbF hbF' hmF hhF hmG hhG hmP hhP
            go_wp2
            go_roundw
            case rel => exact ⟨k', i - 2, R2, D, adF, adP, cF, cP, qF, qP, rfl, rfl, congrArg (Value.int .i64) HR5.out.1, HR5.out.2.1, HR5.out.2.2, HR1.out, HR2.out, HINV.out, HBP.out⟩
            case measure => simp [RowKit.intOf]; have := HKI.out; omega)))
end Go.Proofs.YtildgpahacaglaaGreatDoor
