/-
  The contract of package integer's natural.gcd.
-/
import Derived.Test.YtlcibnmcannapaaGreatDoorDivide
import Derived.Test.YtlcibnmcannapaaGreatDoorGtext
import Derived.Test.YtlcibnmcannapaaGreatDoorGof
import Derived.BigQuiet
namespace Go.Proofs.YtlcibnmcannapaaGreatDoor
open Go Go.Proofs Go.RowKit Go.Lib

/-- What a slice of groups stands for. -/
noncomputable def readG (W : World) (v : Value) : Nat := match v with
  | .slice (some ⟨g, o, none⟩) n _ => valG ((List.range n).map fun j => match W.cell? ⟨g, o + j, none⟩ with | some (.int _ q) => q.toNat | _ => 0)
  | _ => 0
theorem readG_nat {W : World} {ad : Option Addr} {m c n : Nat} (h : NatAt W ad m c n) : readG W (.slice ad m c) = n := by
  obtain ⟨hm, _, _, h3⟩ := h
  have hv := valG_grps n
  generalize grps n = l at *
  rcases h3 with rfl | ⟨g, o, rfl, _, hn⟩
  · simp at hm; subst hm
    rw [← hv]
    cases ad with
    | none => rfl
    | some p => obtain ⟨b, o, q⟩ := p; cases q <;> simp [readG, valG]
  · unfold readG
    simp only
    have : (List.range m).map (fun j => match W.cell? ⟨g, o + j, none⟩ with | some (.int _ q) => q.toNat | _ => 0) = l := by
      apply List.ext_getElem
      · simp [hm]
      · intro i h1 h2
        have := hn i h2
        simp [this, List.getD_eq_getElem?_getD, h2]
    rw [this, hv]

set_option maxRecDepth 100000 in
set_option maxHeartbeats 8000000 in
theorem gcd_any3 (x y : Nat) (ad1 ad2 : Option Addr) (c1 c2 n1 n2 : Nat) (w : World) (h1 : NatAt w ad1 n1 c1 x) (h2 : NatAt w ad2 n2 c2 y) (hn1 : n1 ≤ 900) (hn2 : n2 ≤ 900) (hR : Ready w) :
    Calls Tryz.prog 114 #[.slice ad1 n1 c1, .slice ad2 n2 c2] w (NatPost w (Nat.gcd x y)) := by
  obtain ⟨R, hRd⟩ : ∃ R, Nat.gcd x y = R := ⟨_, rfl⟩
  rw [hRd]
  have H1 := Lib.hid h1; have H2 := Lib.hid h2; have HR := Lib.hid hR; have HRD := Lib.hid hRd
  clear h1 h2 hR hRd
  go_enter Tryz.func114, Tryz.ntmps114
  go_wp2_with fail
  go_loopw [0, 1] (fun va vb wr => ∃ (a b : Nat) (ad1 ad2 : Option Addr) (c1 c2 m1 m2 : Nat), va = .slice ad1 m1 c1 ∧ vb = .slice ad2 m2 c2 ∧ Hid (NatAt wr ad1 m1 c1 a) ∧ Hid (NatAt wr ad2 m2 c2 b) ∧ m1 ≤ 900 ∧ m2 ≤ 900 ∧ Hid (Nat.gcd a b = R) ∧ Hid (Below w.heap.size w wr)) (fun _ vb wr => readG wr vb)
  case atStart => exact ⟨x, y, ad1, ad2, c1, c2, n1, n2, rfl, rfl, H1.out, H2.out, hn1, hn2, HRD.out, Below.refl _ _⟩
  case round =>
    obtain ⟨a, b, d1, d2, k1, k2, m1, m2, rfl, rfl, ha, hb, hm1, hm2, hg, hbr⟩ := hrel
    by_cases h4 : 4 < m2
    · have h4i : (4 : Int) < (m2 : Int) := by omega
      have hb0 : 0 < b := by
        rcases Nat.eq_zero_or_pos b with h | h
        · subst h; have := hb.out.1; rw [grps_zero] at this; simp at this; omega
        · exact h
      have cd := divide_any a b hb0 d1 d2 k1 k2 m1 m2 wr ha.out hb.out hm1 hm2
      have hrb : a % b < b := Nat.mod_lt _ hb0
      have hgn : Nat.gcd b (a % b) = R := by rw [← hg.out, Nat.gcd_comm a b, Nat.gcd_rec b a, Nat.gcd_comm]
      have hmr := readG_nat hb.out
      obtain ⟨r, hr⟩ : ∃ r, a % b = r := ⟨_, rfl⟩
      rw [hr] at cd hrb hgn
      have CD := Lib.hid cd; have HGN := Lib.hid hgn; have HMR := Lib.hid hmr
      clear cd hgn hmr hg hr ha
      go_wp2_with fail
      refine CD.out.mono ?_
      rintro e w1 ⟨a1, q1, s1, a2, q2, s2, rfl, _, hn2, b1⟩
      have hbn := hb.out.below b1 (Nat.le_refl _)
      have hs2 : s2 ≤ 900 := by
        have h1 := hn2.1
        have h2 := hb.out.1
        have := grps_length_le m2 r (Nat.lt_trans hrb ((grps_length_iff m2 b).1 (by rw [h2]; exact Nat.le_refl _)))
        omega
      have hmr2 := readG_nat hn2
      have HN2 := Lib.hid hn2; have HBN := Lib.hid hbn; have HB1 := Lib.hid (below_of hbr.out b1); have HMR2 := Lib.hid hmr2
      clear hn2 hbn b1 hb hbr hmr2 CD
      go_wp2_with fail
      go_roundw
      case rel => exact ⟨b, r, d2, a2, k2, q2, m2, s2, rfl, rfl, HBN.out, HN2.out, hm2, hs2, HGN.out, HB1.out⟩
      case measure => rw [HMR.out, HMR2.out]; exact hrb
    · have h4i : ¬ (4 : Int) < (m2 : Int) := by omega
      by_cases hz : m2 = 0
      · subst hz
        have hb0 : b = 0 := by
          rcases Nat.eq_zero_or_pos b with h | h
          · exact h
          · have := hb.out.1; rw [grps_pos (by omega)] at this; simp at this
        subst hb0
        have hgr : a = R := by rw [← hg.out, Nat.gcd_zero_right]
        subst hgr
        clear hb hg
        go_wp2_with fail
        go_ret
        exact ⟨d1, k1, m1, rfl, ha.out.1, ha.out.2, hbr.out⟩
      · have hzi : ((m2 : Int) == 0) = false := by rw [beq_eq_false_iff_ne]; omega
        have hb0 : 0 < b := by
          rcases Nat.eq_zero_or_pos b with h | h
          · subst h; have := hb.out.1; rw [grps_zero] at this; simp at this; omega
          · exact h
        have cd := divide_any a b hb0 d1 d2 k1 k2 m1 m2 wr ha.out hb.out hm1 hm2
        have hrb : a % b < b := Nat.mod_lt _ hb0
        have hgn : Nat.gcd b (a % b) = R := by rw [← hg.out, Nat.gcd_comm a b, Nat.gcd_rec b a, Nat.gcd_comm]
        have hb16 : b < 10000000000000000 := word_lt (by rw [hb.out.1]; omega)
        obtain ⟨r, hr⟩ : ∃ r, a % b = r := ⟨_, rfl⟩
        rw [hr] at cd hrb hgn
        have CD := Lib.hid cd; have HGN := Lib.hid hgn
        clear cd hgn hg hr ha
        go_wp2_with fail
        refine CD.out.mono ?_
        rintro e w1 ⟨a1, q1, s1, a2, q2, s2, rfl, _, hn2, b1⟩
        have hbn := hb.out.below b1 (Nat.le_refl _)
        have hs2 : s2 ≤ 4 := by
          have h1 := hn2.1
          have h2 := hb.out.1
          have := grps_length_le m2 r (Nat.lt_trans hrb ((grps_length_iff m2 b).1 (by rw [h2]; exact Nat.le_refl _)))
          omega
        have cw1 := word_any b d2 k2 m2 w1 hbn (by omega)
        have cw2 := fun W (bb : Below w1.heap.size w1 W) => word_any r a2 q2 s2 W (hn2.below bb (Nat.le_refl _)) hs2
        have CW1 := Lib.hid cw1; have CW2 := Lib.hid cw2; have HB1 := Lib.hid (below_of hbr.out b1)
        clear cw1 cw2 hn2 hbn b1 hb hbr CD
        go_wp2_with fail
        refine CW1.out.mono ?_
        rintro e w2 ⟨rfl, b2⟩
        have cw2 := CW2.out w2 b2
        have HC2 := Lib.hid cw2; have HB2 := Lib.hid (below_of HB1.out b2)
        clear cw2 b2 HB1 CW2 CW1
        go_wp2_with fail
        refine HC2.out.mono ?_
        rintro e w3 ⟨rfl, b3⟩
        have HB3 := Lib.hid (below_of HB2.out b3)
        clear b3 HB2 HC2
        go_wp2_with fail
        go_loopw [9, 10] (fun va vb wr => ∃ (p q k : Nat), va = .int .i64 (p : Int) ∧ vb = .int .i64 (q : Int) ∧ p < 10000000000000000 ∧ q < 10000000000000000 ∧ Hid (Nat.gcd p q = R) ∧ wr = w3.drewN k) (fun _ vb _ => (RowKit.intOf vb).toNat)
        case atStart => exact ⟨b, r, 0, rfl, rfl, hb16, by omega, HGN.out, rfl⟩
        case round =>
          obtain ⟨p, q, k, rfl, rfl, hp, hq, hgpq, rfl⟩ := hrel
          by_cases hq0 : q = 0
          · subst hq0
            have hpR : p = R := by rw [← hgpq.out, Nat.gcd_zero_right]
            subst hpR
            have hb9 : Below w.heap.size w (w3.drewN k) := below_drewN HB3.out k
            have hrd : Ready (w3.drewN k) := HR.out.below hb9
            have ci := strconv_Itoa (p : Int) (by omega) (by omega) (w3.drewN k) hrd
            rw [itoa_textI] at ci
            have hti : textI (p : Int) = byteL (textN p) := by unfold textI; rw [if_neg (by omega), Int.natAbs_natCast]; rfl
            have hbt : bytesL (byteL (textN p)) = textN p := bytesL_byteL (textN_lt p)
            have hv : valD (digT (textN p)) = p := (textN_plain (Nat.lt_trans hp (by decide))).2
            have hsz : (byteL (textN p)).size ≤ 1000 := by
              rw [byteL_size]
              have := textN_len_le (n := p) (c := 4) (by simpa using hp)
              omega
            have cn := fun W => naturalOf_any (byteL (textN p)) (by rw [hbt]; exact textN_dig p) hsz W
            rw [hbt, hv] at cn
            rw [hti] at ci
            obtain ⟨T, hT⟩ : ∃ T, byteL (textN p) = T := ⟨_, rfl⟩
            rw [hT] at ci cn
            have CI := Lib.hid ci; have CN := Lib.hid cn; have HB9 := Lib.hid hb9
            clear ci cn hb9 hrd hti hbt hv hsz hT hgpq
            go_wp2_with fail
            refine CI.out.mono ?_
            rintro e w4 ⟨rfl, kk, os, rfl⟩
            have hb10 := below_of HB9.out (Lib.below_grow _ _ (Nat.le_refl _) kk os)
            have hb11 : Below w.heap.size w («Sort».grow (w3.drewN (k + kk)) os) := by simpa using hb10
            have HB10 := Lib.hid hb11
            clear hb10 hb11
            go_wp2_with fail
            refine (CN.out _).mono ?_
            rintro e w5 hpost
            have HP := Lib.hid (hpost.on HB10.out)
            obtain ⟨a9, c9, m9, rfl, hm9, hh9⟩ := hpost
            clear hh9
            go_wp2_with fail
            go_ret
            exact HP.out
          · have hqi : (0 : Int) < (q : Int) := by omega
            have hqn : (q : Int) ≠ 0 := by omega
            have hrem : Int.tmod (p : Int) (q : Int) = ((p % q : Nat) : Int) := by rw [Int.tmod_eq_emod_of_nonneg (by omega)]; omega
            have hmq : p % q < q := Nat.mod_lt _ (by omega)
            have hgn : Nat.gcd q (p % q) = R := by rw [← hgpq.out, Nat.gcd_comm p q, Nat.gcd_rec q p, Nat.gcd_comm]
            obtain ⟨rr, hrr⟩ : ∃ r, p % q = r := ⟨_, rfl⟩
            rw [hrr] at hrem hmq hgn
            have hwr : IntKind.i64.wrap (rr : Int) = (rr : Int) := IntWalk.i64_in _ (by omega)
            have HGN2 := Lib.hid hgn
            clear hgn hrr hgpq
            go_wp2_with fail
            go_quiet (fail)
            go_wp2
            go_roundw
            case rel => exact ⟨q, rr, k + nq, rfl, rfl, hq, by omega, HGN2.out, by simp⟩
            case measure => simp [RowKit.intOf]; omega
end Go.Proofs.YtlcibnmcannapaaGreatDoor
