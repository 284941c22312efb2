/-
  Layer 8: the reference's Of, its slices' room told too.
-/
import Derived.Test.YtamefmojocegkaaDoorK04
namespace Go.Proofs.YtamefmojocegkaaDoor
open Go Go.Proofs Go.RowKit Go.Lib

def Capd (a : Option Addr) (n c : Nat) : Prop := (a = none → c = 0) ∧ n ≤ c
def OfPost2 (w : World) (l : List Hp) (e : Ending) (w' : World) : Prop := ∃ a1 c1 a2 c2, e = .returned (.tuple #[.slice a1 l.length c1, .slice a2 l.length c2]) ∧ Capd a1 l.length c1 ∧ Capd a2 l.length c2 ∧ RN KE w' w.heap.size a1 (l.map (·.e)) ∧ RN KI w' w.heap.size a2 (l.map (·.t)) ∧ Below w.heap.size w w'
theorem Own.rn2 {T : Type} {K : RowK T} {W : World} {base : Nat} {v : Value} {l : List T} (h : Own K W base v l) : ∃ ad c, v = .slice ad l.length c ∧ Capd ad l.length c ∧ RN K W base ad l := by
  obtain ⟨ad, c, e, hc, hr⟩ := h.rn
  refine ⟨ad, c, e, ⟨fun hn => ?_, hc⟩, hr⟩
  subst hn
  rcases h.2 with ⟨hv, _⟩ | ⟨g, cap, cur, hv, _⟩
  · rw [e] at hv; injection hv
  · rw [e] at hv; injection hv with e1; cases e1
set_option maxRecDepth 100000 in
set_option maxHeartbeats 8000000 in
theorem ofR2_any (ad : Option Addr) (c : Nat) (ls : List (List Hp)) (id : Int) (hl : ls.length ≤ 1000) (hl2 : ∀ i, (ls.getD i []).length ≤ 10000) (hlo : (ofL ls id).length ≤ 10000000) (w : World) (hs : StAt w ad ls) :
    Calls Tryd.prog 39 #[.slice ad ls.length c, .int .i64 id] w (OfPost2 w (ofL ls id)) := by
  obtain ⟨vs, hr, hvl, hvs⟩ := hs
  have HVS := Lib.hid hvs
  have HRS := Lib.hid hr
  have HVL := Lib.hid hvl
  have HL2 := Lib.hid hl2
  have HLE := Lib.hid (show ∀ k q, k ≤ ls.length → (ofP ls id k q).length ≤ (ofL ls id).length from fun k q hk => ofP_le ls id k q)
  have HSTEP := Lib.hid (fun k q hq => ofP_step ls id k q hq); have HSE := Lib.hid (fun k hk => ofP_end ls id k hk)
  have HFIN := Lib.hid (show ofP ls id ls.length 0 = ofL ls id by rw [ofP_zero, List.take_length])
  have HZ0 := Lib.hid (show ofP ls id 0 0 = [] by rw [ofP_zero]; rfl)
  have HLO := Lib.hid hlo
  clear hr hvl hvs hl2 hlo
  go_enter Tryd.func39, Tryd.ntmps39
  go_wp2_with fail
  go_loopw [6, 7, 8] (fun u v i wr => ∃ k : Nat, k ≤ ls.length ∧ i = .int .i64 k ∧ Hid (Two8 wr w.heap.size u v (ofP ls id k 0)) ∧ Hid (Below w.heap.size w wr)) (fun _ _ i _ => ls.length - (RowKit.intOf i).toNat)
  case atStart => exact ⟨0, Nat.zero_le _, rfl, Lib.hid ⟨by rw [HZ0.out]; exact Own.nil _ _ _, by rw [HZ0.out]; exact Own.nil _ _ _, fun j h => by cases h⟩, Lib.hid (Below.refl _ _)⟩
  case round =>
    obtain ⟨k, hk, rfl, HO, HB⟩ := hrel
    generalize wr = w2 at *
    by_cases hlt : k < ls.length
    · have hki : (k : Int) < (ls.length : Int) := by omega
      have hkv : k < vs.length := by rw [HVL.out]; exact hlt
      obtain ⟨sb, so, rfl, hsb, hsc⟩ := HRS.out.at_ k hkv
      obtain ⟨hn, hrl⟩ := HVS.out k hkv
      have HSC := Lib.hid (show ∀ W, Below w.heap.size w W → W.cell? ⟨sb, so + k, none⟩ = some (.slice (vs[k]'hkv).ad (ls.getD k []).length (vs[k]'hkv).c) from fun W b => by
        have := hsc W b 0 (by decide)
        rw [show so + KS.n * k + 0 = so + k by show so + 1 * k + 0 = _; omega] at this
        rw [this, ← hn]; rfl)
      have is := fun W => at_st8 sb so ls.length c k hlt W
      have HRL := Lib.hid hrl
      have HLT := Lib.hid hlt
      have HNX := Lib.hid (HSE.out k hlt)
      have hln := HL2.out k
      have HST := Lib.hid (HSTEP.out k)
      have HLEK := Lib.hid (fun q => Nat.le_trans (HLE.out k q hk) HLO.out)
      generalize (vs[k]'hkv).ad = ha at *
      generalize (vs[k]'hkv).c = hcp at *
      generalize ls.getD k [] = hs at *
      clear hsc hn hrl hlt hkv hsb
      go_wp2_with fail
      go_loopw [6, 7, 9] (fun u v i wr => ∃ q : Nat, q ≤ hs.length ∧ i = .int .i64 q ∧ Hid (Two8 wr w.heap.size u v (ofP ls id k q)) ∧ Hid (Below w.heap.size w wr)) (fun _ _ i _ => hs.length - (RowKit.intOf i).toNat)
      case atStart => exact ⟨0, Nat.zero_le _, rfl, HO, HB⟩
      case round =>
        clear HO HB
        obtain ⟨q, hq, rfl, HO, HB⟩ := hrel
        generalize wr = w3 at *
        have s0 := HSC.out w3 HB.out
        by_cases hqt : q < hs.length
        · have hqi : (q : Int) < (hs.length : Int) := by omega
          obtain ⟨hb, ho, rfl, hhb, hhc⟩ := HRL.out.hp q hqt
          have ih := fun W => at_hp8 hb ho hs.length hcp q hqt W
          have HSQ := Lib.hid (HST.out q hqt)
          have HQT := Lib.hid hqt
          have HHC := Lib.hid hhc
          have HLQ := Lib.hid (show (ofP ls id k q).length + 1 ≤ 100000000 by have := HLEK.out q; omega)
          obtain ⟨⟨e0, e1, e2, e3, e4, e5, e6, e7, e8, e9, e10, e11⟩, e12⟩ := hhc w3 HB.out
          generalize hs[q]'hqt = h at *
          generalize ofP ls id k q = L at *
          clear hhc hqt hhb
          cases ht : (h.e.tr == id) with
          | false =>
            have HS2 := Lib.hid (show ofP ls id k (q + 1) = L by rw [HSQ.out, ht]; simp)
            go_wp2_with fail
            go_roundw
            case rel => exact ⟨q + 1, HQT.out, by go_num, Lib.hid (by rw [HS2.out]; exact HO.out), HB⟩
            case measure => have h9 := HQT.out; simp [RowKit.intOf]; omega
          | true =>
            have HS2 := Lib.hid (show ofP ls id k (q + 1) = L ++ [h] by rw [HSQ.out, ht]; rfl)
            obtain ⟨o1, o2, o3⟩ := HO.out
            have HO1 := Lib.hid o1; have HO2 := Lib.hid o2; have HO3 := Lib.hid o3
            clear o1 o2 o3 HSQ
            have hwz : w.heap.size ≤ w3.heap.size := HB.out.size
            obtain ⟨w4, V4, Z4, K4, B4⟩ := lay8 w3 [.int .i64 h.e.ag, .int .i64 h.e.sq, .int .i64 h.e.tm, .int .i64 h.e.kd, .int .i64 h.e.tr, .int .i64 h.e.sp, .int .i64 h.e.lk, .int .i64 h.e.gn, .int .i64 h.e.op, .int .i64 h.e.vr, .int .i64 h.e.pe, .int .i64 h.e.bt] 46
            have K4 := Lib.hid (show CellsAt w4 w3.heap.size (KE.cs h.e) from K4)
            have B4 := Lib.hid B4
            go_upto_region 11 with (first | (at_builtin; refine walk_push8 KE (w0 := w4) rfl _ _ rfl w.heap.size u6 (L.map (·.e)) h.e rfl (HO1.out.below B4.out (Nat.le_refl _)) (Below.refl _ _) (by omega) w3.heap.size 1 rfl K4.out (by rw [List.length_map]; exact HLQ.out) ?_; intro y6 w6 ho6 hb6 hg6 hk6))
            have HB6 := Lib.hid (show Below w.heap.size w w6 from (HB.out.trans (B4.out.mono hwz)).trans hb6)
            have HO6 := Lib.hid ho6
            have HV6 := Lib.hid (own_grown8 (HO2.out.below B4.out (Nat.le_refl _)) hg6 (fun j e e2 => HO3.out j e2 e))
            have HN6 := Lib.hid (show ∀ j, y6.ownBlock = some j → u7.ownBlock ≠ some j from fun j e e2 => by
              rcases hk6 with hk | hk
              · exact HO3.out j (by rw [← hk]; exact e) e2
              · rw [hk] at e; injection e with e; have := (HO2.out.ge j e2).2; omega)
            have hwz6 : w.heap.size ≤ w6.heap.size := HB6.out.size
            clear e0 e1 e2 e3 e4 e5 e6 e7 e8 e9 e10 e11 e12 s0 ho6 hb6 hg6 hk6 V4
            obtain ⟨_, e12⟩ := HHC.out w6 HB6.out
            have s0 := HSC.out w6 HB6.out
            obtain ⟨w7, V7, Z7, K7, B7⟩ := lay8 w6 [.int .i64 h.t] 3
            have K7 := Lib.hid (show CellsAt w7 w6.heap.size (KI.cs h.t) from K7)
            have B7 := Lib.hid B7
            go_wp2_with (first | (at_builtin; refine walk_push8 KI (w0 := w7) rfl _ _ rfl w.heap.size u7 (L.map (·.t)) h.t rfl (HV6.out.below B7.out (Nat.le_refl _)) (Below.refl _ _) (by omega) w6.heap.size 1 rfl K7.out (by rw [List.length_map]; exact HLQ.out) ?_; intro y8 w8 ho8 hb8 hg8 hk8))
            have HB8 := Lib.hid (show Below w.heap.size w w8 from (HB6.out.trans (B7.out.mono hwz6)).trans hb8)
            have HO8 := Lib.hid (show Two8 w8 w.heap.size y6 y8 (L ++ [h]) from ⟨by rw [List.map_append]; exact own_grown8 (HO6.out.below B7.out (Nat.le_refl _)) hg8 (fun j e e2 => HN6.out j e e2), by rw [List.map_append]; exact ho8, fun j e e2 => by
              rcases hk8 with hk | hk
              · exact HN6.out j e (by rw [← hk]; exact e2)
              · rw [hk] at e2; injection e2 with e2; have := (HO6.out.ge j e).2; omega⟩)
            clear ho8 hb8 hg8 hk8 e12 s0 V7
            go_roundw
            case rel => exact ⟨q + 1, HQT.out, by go_num, Lib.hid (by rw [HS2.out]; exact HO8.out), HB8⟩
            case measure => have h9 := HQT.out; simp [RowKit.intOf]; omega
        · have hqe : q = hs.length := by omega
          have HQE := Lib.hid hqe
          have hqi : ¬ (q : Int) < (hs.length : Int) := by omega
          clear hqe hqt
          go_wp2_with fail
          go_roundw
          case rel => exact ⟨k + 1, HLT.out, by go_num, Lib.hid (by rw [← HNX.out, ← HQE.out]; exact HO.out), HB⟩
          case measure => have h9 := HLT.out; simp [RowKit.intOf]; omega
    · have hke : k = ls.length := by omega
      have HKE := Lib.hid hke
      have hki : ¬ (k : Int) < (ls.length : Int) := by omega
      obtain ⟨o1, o2, _⟩ := HO.out
      obtain ⟨a5, c5, e5, hn5, hr5⟩ := o1.rn2
      obtain ⟨a6, c6, e6, hn6, hr6⟩ := o2.rn2
      rw [List.length_map] at hn5 hn6
      rw [List.length_map] at e5 e6
      subst e5 e6
      have HP := Lib.hid (show OfPost2 w (ofL ls id) (.returned (.tuple #[.slice a5 (ofP ls id k 0).length c5, .slice a6 (ofP ls id k 0).length c6])) w2 from by
        rw [HKE.out, HFIN.out] at hn5 hn6 hr5 hr6 ⊢
        exact ⟨a5, c5, a6, c6, rfl, hn5, hn6, hr5, hr6, HB.out⟩)
      clear o1 o2 hn5 hr5 hn6 hr6 hke hlt
      go_wp2_with fail
      go_ret2
      exact HP.out
end Go.Proofs.YtamefmojocegkaaDoor
