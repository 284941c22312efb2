/-
  Layer 8, the program: Constraints, Agrees.
-/
import Derived.Test.YtifdcfjllonmgaaDoorNp
import Derived.Test.YtifdcfjllonmgaaDoorNm
namespace Go.Proofs.YtifdcfjllonmgaaDoor
open Go Go.Proofs Go.RowKit Go.Lib

theorem cons_bd {f : Fl} (hf : flB f = true) : ∀ s ∈ rlS f, ∀ a b, Good f a → Good f b → -1152921504606846976 ≤ s.lo a b ∧ s.lo a b ≤ 1152921504606846976 := by
  intro s hs a b ha hb
  obtain ⟨_, _, ⟨l0, l1⟩, _⟩ := flB_of hf
  obtain ⟨⟨a0, _⟩, _, ⟨t0, t1⟩, _⟩ := evB_of ha.1
  obtain ⟨_, _, ⟨s0, s1⟩, _⟩ := evB_of hb.1
  obtain ⟨r0, r1⟩ := drOf_bd hf a0 ha.2
  simp only [rlS, List.mem_cons, List.not_mem_nil, or_false] at hs
  rcases hs with rfl | rfl | rfl | rfl
  · obtain ⟨p0, p1⟩ := prod_bd8 (a := (b.tm - a.tm) - 1) (b := 1000000 - f.drOf a.ag) (by omega) (by omega) (by omega) (by omega)
    show _ ≤ low8 (f.drOf a.ag) (b.tm - a.tm) ∧ low8 (f.drOf a.ag) (b.tm - a.tm) ≤ _
    unfold low8
    split <;> omega
  · exact ⟨by show _ ≤ f.lat; omega, by show f.lat ≤ _; omega⟩
  · exact ⟨(show (-1152921504606846976 : Int) ≤ 0 by decide), (show (0 : Int) ≤ 1152921504606846976 by decide)⟩
  · exact ⟨(show (-1152921504606846976 : Int) ≤ 0 by decide), (show (0 : Int) ≤ 1152921504606846976 by decide)⟩
theorem conW_le (ss : List RSem) (l : List Ev) (hs : ss.length ≤ 8) (hl : l.length ≤ 24) : (conW ss l).length ≤ maxLen := by
  have h1 := conU_le ss l hs (pairK l.length l.length)
  have h2 := pairK_le l.length l.length
  have h3 : l.length * l.length ≤ 24 * 24 := Nat.mul_le_mul hl hl
  unfold conW maxLen
  omega
theorem constraints_u {f : Fl} {l : List Ev} (h : evsB f l = true) (ss : List RSem) (hss : ∀ s ∈ ss, s ∈ rlS f) (hs8 : ss.length ≤ 8) (rs : List Rl) (g cr : Nat) (ad : Option Addr) (c : Nat) (w : World) (hI : RL KE w ad l) (hR : RL KR w (some ⟨g, 0, none⟩) rs) (hK : RlsOk w (Good f) rs ss) :
    Calls Tryd.prog 44 #[.slice ad l.length c, .slice (some ⟨g, 0, none⟩) rs.length cr] w (ConsPost w (conW ss l)) := by
  have he := of_evsB h
  exact callsIn_wide.1 (constraints_in ss (Good f) rs g cr ad c l w he.2.1 hs8 hI hR hK (fun i hi => ev_good he hi) (fun e h => good_ag h) (fun s hs a b ha hb => cons_bd he.1 s (hss s hs) a b ha hb))
set_option maxRecDepth 100000 in
set_option maxHeartbeats 8000000 in
theorem consP_u (v : Value) (f : Fl) (ad : Option Addr) (c : Nat) (l : List Ev) (w : World) (hfit : f.fit) (hl : l.length ≤ maxLen) (hw : evsW l) (hR : Rdy w) (hf : FlAt w v f) (hI : RL KE w ad l) :
    Calls Tryd.prog 16 #[v, .slice ad l.length c] w (ConPost w (conL f l) (conE f l)) := by
  have HFA := Lib.hid (fun W (b : Below w.heap.size w W) => hf.below b)
  have HIA := Lib.hid (fun W (b : Below w.heap.size w W) => hI.below b)
  have HRD := Lib.hid (fun W (b : Below w.heap.size w W) => hR.below b)
  obtain ⟨x1, c1, x2, c3, x3, c4, rfl, _, _, _⟩ := hf
  have CE := Lib.hid (fun W h1 h2 h3 => events_u (.agg #[.slice x1 f.dr.length c1, .int .i64 f.lat, .int .i64 f.lia, .slice x2 f.sv.length c3, .slice x3 f.tm.length c4]) f ad c l hfit hl hw W h1 h2 h3)
  have CR := Lib.hid (fun W h1 h2 => rules_u (.agg #[.slice x1 f.dr.length c1, .int .i64 f.lat, .int .i64 f.lia, .slice x2 f.sv.length c3, .slice x3 f.tm.length c4]) f W h1 h2)
  obtain ⟨w1, V1, Z1, K1, B1⟩ := lay8 w [.slice x1 f.dr.length c1, .int .i64 f.lat, .int .i64 f.lia, .slice x2 f.sv.length c3, .slice x3 f.tm.length c4] 24
  have HB1 := Lib.hid B1
  have HKX := Lib.hid (show ∀ W, Below w1.heap.size w1 W → W.cell? ⟨w.heap.size, 0, none⟩ = some (.slice x1 f.dr.length c1) ∧ W.cell? ⟨w.heap.size, 1, none⟩ = some (.int .i64 f.lat) ∧ W.cell? ⟨w.heap.size, 2, none⟩ = some (.int .i64 f.lia) ∧ W.cell? ⟨w.heap.size, 3, none⟩ = some (.slice x2 f.sv.length c3) ∧ W.cell? ⟨w.heap.size, 4, none⟩ = some (.slice x3 f.tm.length c4) from fun W b => ⟨(K1.below b 0 (by simp)).1, (K1.below b 1 (by simp)).1, (K1.below b 2 (by simp)).1, (K1.below b 3 (by simp)).1, (K1.below b 4 (by simp)).1⟩)
  obtain ⟨y0, y1, y2, y3, y4⟩ := HKX.out w1 (Below.refl _ _)
  clear hI hR K1 B1 hw hl hfit
  cases he : evsB f l with
  | false =>
    have HP := Lib.hid (show ∀ W, Below w.heap.size w W → ConPost w (conL f l) (conE f l) (.returned (.tuple #[.slice none 0 0, .int .i64 80])) W from fun W b => by
      unfold conL conE
      rw [he, if_neg (by decide), if_neg (by decide)]
      exact ⟨none, 0, rfl, Nat.le_refl _, .inl rfl, b⟩)
    rw [he] at CE
    clear he
    go_enter Tryd.func16, Tryd.ntmps16
    go_wp2_with fail
    refine (CE.out _ (HRD.out _ HB1.out) (HFA.out _ HB1.out) (HIA.out _ HB1.out)).mono ?_
    rintro e w2 ⟨rfl, hb⟩
    have HB2 := Lib.hid (HB1.out.trans (hb.mono HB1.out.size))
    clear hb y0 y1 y2 y3 y4
    go_wp2_with fail
    go_ret2
    exact HP.out _ HB2.out
  | true =>
    have HC := Lib.hid (fun rs g cr W h1 h2 h3 => constraints_u he (rlS f) (fun s hs => hs) (show (4 : Nat) ≤ 8 by decide) rs g cr ad c W h1 h2 h3)
    have HP := Lib.hid (show ∀ W W' ad' c', Below w.heap.size w W → (conW (rlS f) l).length ≤ c' → RN KC W' W.heap.size ad' (conW (rlS f) l) → Below W.heap.size W W' → ConPost w (conL f l) (conE f l) (.returned (.tuple #[.slice ad' (conW (rlS f) l).length c', .int .i64 0])) W' from fun W W' ad' c' b h1 h2 b2 => by
      unfold conL conE
      rw [he, if_pos rfl, if_pos rfl, ← conW_eq he]
      exact ⟨ad', c', rfl, h1, h2.base b.size, b.trans (b2.mono b.size)⟩)
    have HFL := Lib.hid (of_evsB he).1
    rw [he] at CE
    clear he
    generalize conW (rlS f) l = CL at *
    go_enter Tryd.func16, Tryd.ntmps16
    go_wp2_with fail
    refine (CE.out _ (HRD.out _ HB1.out) (HFA.out _ HB1.out) (HIA.out _ HB1.out)).mono ?_
    rintro e w2 ⟨rfl, hb⟩
    have HU2 := Lib.hid (show Below w1.heap.size w1 w2 from hb)
    have HB2 := Lib.hid (HB1.out.trans (hb.mono HB1.out.size))
    clear hb y0 y1 y2 y3 y4 V1
    obtain ⟨y0, y1, y2, y3, y4⟩ := HKX.out w2 HU2.out
    go_wp2_with fail
    refine (CR.out _ (HFA.out _ HB2.out) HFL.out).mono ?_
    rintro e w3 ⟨g, rs, rfl, hr, hk, hb⟩
    have HB3 := Lib.hid (HB2.out.trans (hb.mono HB2.out.size))
    have h4 : rs.length = 4 := hk.1
    have HC4 := Lib.hid (by have := HC.out rs g 4 w3 (HIA.out _ HB3.out) hr hk; rw [h4] at this; exact this)
    clear hb hr hk h4 y0 y1 y2 y3 y4
    go_wp2_with fail
    refine (HC4.out).mono ?_
    rintro e w4 ⟨ad', c', rfl, hc, hn, hb⟩
    have HQ := Lib.hid (HP.out w3 w4 ad' c' HB3.out hc hn hb)
    clear hc hn hb
    go_wp2_with fail
    go_ret2
    exact HQ.out
set_option maxRecDepth 100000 in
set_option maxHeartbeats 8000000 in
theorem agreesP_u (v : Value) (f : Fl) (ad ad2 : Option Addr) (c c2 : Nat) (l : List Ev) (x : List Int) (m : Int) (w : World) (hfit : f.fit) (hl : l.length ≤ maxLen) (hx : x.length ≤ maxLen) (hw : evsW l) (hR : Rdy w) (hf : FlAt w v f) (hI : RL KE w ad l) (hJ : RL KI w ad2 x) :
    Calls Tryd.prog 21 #[v, .slice ad l.length c, .slice ad2 x.length c2, .int .i64 m] w fun e w' => e = .returned (.bool (agB f l x m)) ∧ Below w.heap.size w w' := by
  have HFA := Lib.hid (fun W (b : Below w.heap.size w W) => hf.below b)
  have HIA := Lib.hid (fun W (b : Below w.heap.size w W) => hI.below b)
  have HJA := Lib.hid (fun W (b : Below w.heap.size w W) => hJ.below b)
  have HRD := Lib.hid (fun W (b : Below w.heap.size w W) => hR.below b)
  have HHX := Lib.hid hx
  obtain ⟨x1, c1, x2, c3, x3, c4, rfl, _, _, _⟩ := hf
  have CE := Lib.hid (fun W h1 h2 h3 => events_u (.agg #[.slice x1 f.dr.length c1, .int .i64 f.lat, .int .i64 f.lia, .slice x2 f.sv.length c3, .slice x3 f.tm.length c4]) f ad c l hfit hl hw W h1 h2 h3)
  have CT := Lib.hid (fun W h => areTimes_u ad l.length c x ad2 c2 W hx h)
  have CR := Lib.hid (fun W h1 h2 => rules_u (.agg #[.slice x1 f.dr.length c1, .int .i64 f.lat, .int .i64 f.lia, .slice x2 f.sv.length c3, .slice x3 f.tm.length c4]) f W h1 h2)
  obtain ⟨w1, V1, Z1, K1, B1⟩ := lay8 w [.slice x1 f.dr.length c1, .int .i64 f.lat, .int .i64 f.lia, .slice x2 f.sv.length c3, .slice x3 f.tm.length c4] 24
  have HB1 := Lib.hid B1
  have HKX := Lib.hid (show ∀ W, Below w1.heap.size w1 W → W.cell? ⟨w.heap.size, 0, none⟩ = some (.slice x1 f.dr.length c1) ∧ W.cell? ⟨w.heap.size, 1, none⟩ = some (.int .i64 f.lat) ∧ W.cell? ⟨w.heap.size, 2, none⟩ = some (.int .i64 f.lia) ∧ W.cell? ⟨w.heap.size, 3, none⟩ = some (.slice x2 f.sv.length c3) ∧ W.cell? ⟨w.heap.size, 4, none⟩ = some (.slice x3 f.tm.length c4) from fun W b => ⟨(K1.below b 0 (by simp)).1, (K1.below b 1 (by simp)).1, (K1.below b 2 (by simp)).1, (K1.below b 3 (by simp)).1, (K1.below b 4 (by simp)).1⟩)
  obtain ⟨y0, y1, y2, y3, y4⟩ := HKX.out w1 (Below.refl _ _)
  obtain ⟨R, hRR⟩ : ∃ R, agB f l x m = R := ⟨_, rfl⟩
  rw [hRR]
  have HNO := Lib.hid (fun h : ¬ AgOk f l x m => show R = false by rw [← hRR]; exact agB_no h)
  have HEQ := Lib.hid (fun h : evsB f l = true => show R = (timesB l.length x && !((conW (rlS f) l).any (brkB m x))) by rw [← hRR]; exact agB_eq h x m)
  clear hI hJ hR K1 B1 hw hfit hx hRR
  cases he : evsB f l with
  | false =>
    have HF := Lib.hid (HNO.out (fun h => by rw [h.1] at he; cases he))
    rw [he] at CE
    clear he HNO HEQ
    go_enter Tryd.func21, Tryd.ntmps21
    go_wp2_with (first | (go_at_call 18; refine (CE.out _ (HRD.out _ HB1.out) (HFA.out _ HB1.out) (HIA.out _ HB1.out)).mono ?_; rintro e w2 ⟨rfl, hb⟩; have HB2 := Lib.hid (HB1.out.trans (hb.mono HB1.out.size)); clear hb))
    go_ret
    exact ⟨by rw [HF.out]; rfl, HB2.out⟩
  | true =>
    cases ht : timesB l.length x with
    | false =>
      have HF := Lib.hid (show R = false by rw [HEQ.out he, ht]; rfl)
      rw [he] at CE
      rw [ht] at CT
      clear he ht HNO HEQ
      go_enter Tryd.func21, Tryd.ntmps21
      go_wp2_with (first | (go_at_call 18; refine (CE.out _ (HRD.out _ HB1.out) (HFA.out _ HB1.out) (HIA.out _ HB1.out)).mono ?_; rintro e w2 ⟨rfl, hb⟩; have HB2 := Lib.hid (HB1.out.trans (hb.mono HB1.out.size)); clear hb) | (go_at_call 50; refine (CT.out _ (HJA.out _ HB2.out)).mono ?_; rintro e w3 ⟨rfl, hb⟩; have HB3 := Lib.hid (HB2.out.trans (hb.mono HB2.out.size)); clear hb))
      go_ret
      exact ⟨by rw [HF.out]; rfl, HB3.out⟩
    | true =>
      have HF := Lib.hid (show R = !((conW (rlS f) l).any (brkB m x)) by rw [HEQ.out he, ht]; rfl)
      have HC := Lib.hid (fun rs g cr W h1 h2 h3 => constraints_u he (rlS f) (fun s hs => hs) (show (4 : Nat) ≤ 8 by decide) rs g cr ad c W h1 h2 h3)
      have HFL := Lib.hid (of_evsB he).1
      have HXL := (timesB_of ht).2
      have HAG := Lib.hid (fun ad' c' W h1 h2 => agree_u (conW (rlS f) l) ad' c' x ad2 c2 m W (conW_le _ _ (show (4 : Nat) ≤ 8 by decide) (of_evsB he).2.1) h1 h2 (fun y hy => by rw [HXL]; exact con_okx he y hy) (timesB_of ht).1)
      clear HXL
      rw [he] at CE
      rw [ht] at CT
      clear he ht HNO HEQ
      generalize conW (rlS f) l = CL at *
      generalize (CL.any (brkB m x)) = Q at *
      go_enter Tryd.func21, Tryd.ntmps21
      go_wp2_with (first | (go_at_call 18; refine (CE.out _ (HRD.out _ HB1.out) (HFA.out _ HB1.out) (HIA.out _ HB1.out)).mono ?_; rintro e w2 ⟨rfl, hb⟩; have HU2 := Lib.hid (show Below w1.heap.size w1 w2 from hb); have HB2 := Lib.hid (HB1.out.trans (hb.mono HB1.out.size)); clear hb y0 y1 y2 y3 y4) | (go_at_call 50; refine (CT.out _ (HJA.out _ HB2.out)).mono ?_; rintro e w3 ⟨rfl, hb⟩; have HU3 := Lib.hid (show Below w1.heap.size w1 w3 from HU2.out.trans (hb.mono HU2.out.size)); have HB3 := Lib.hid (HB2.out.trans (hb.mono HB2.out.size)); clear hb; obtain ⟨y0, y1, y2, y3, y4⟩ := HKX.out w3 HU3.out) | (go_at_call 45; refine (CR.out _ (HFA.out _ HB3.out) HFL.out).mono ?_; rintro e w4 ⟨g, rs, rfl, hr, hk, hb⟩; have HB4 := Lib.hid (HB3.out.trans (hb.mono HB3.out.size)); have h4 : rs.length = 4 := hk.1; have HC4 := Lib.hid (by have := HC.out rs g 4 w4 (HIA.out _ HB4.out) hr hk; rw [h4] at this; exact this); clear hb hr hk h4) | (go_at_call 44; refine (HC4.out).mono ?_; rintro e w5 ⟨ad', c', rfl, hc, hn, hb⟩; have HB5 := Lib.hid (HB4.out.trans (hb.mono HB4.out.size)); have HG := Lib.hid (HAG.out ad' c' w5 hn.rl (HJA.out _ HB5.out)); clear hc hn hb) | (go_at_call 51; refine (HG.out).mono ?_; rintro e w6 ⟨rfl, hb⟩; have HB6 := Lib.hid (HB5.out.trans (hb.mono HB5.out.size)); clear hb))
      go_ret
      exact ⟨by rw [HF.out]; rfl, HB6.out⟩
end Go.Proofs.YtifdcfjllonmgaaDoor
