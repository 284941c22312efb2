/-
  DigestProofAccepted returns true for all arguments: the walk.
-/
import Derived.Test.YtoaaelnmbpmbeaaDoorLawExt
import Derived.Deep.RegionHeld3
namespace Go.Proofs.YtoaaelnmbpmbeaaDoor
open Go Go.Proofs Go.RowKit Go.Lib

theorem verb_yes (l : List ByteArray) (k : Nat) (hk : k < l.length) : verB (rootF l) l.length k l[k] (proofF l k) = true := by
  have h := valF_proof l k hk
  have hd := proofF_dig l.length l k (Nat.le_refl _)
  unfold verB
  rw [hd]
  simp [h, hk]
/-- Another length is refused. -/
theorem verb_no (l : List ByteArray) (k : Nat) (hk : k < l.length) (q : List ByteArray) (hq : q.length ≠ (proofF l k).length) : verB (rootF l) l.length k l[k] q = false := by
  have h := valF_proof l k hk
  unfold verB
  have hv : ¬ valF l.length k l[k] q = some (rootF l) := by
    intro h2
    have := valR_length _ _ _ _ _ _ _ _ h h2
    simp at this
    exact hq this.symm
  simp [hv]
theorem verb_out (root : ByteArray) (n i : Int) (s : ByteArray) (p : List ByteArray) (h : ¬ (0 ≤ i ∧ i < n)) : verB root n i s p = false := by unfold verB; rw [decide_eq_false h]; rfl

theorem OwnStrs.heq {W W' : World} {base : Nat} {v : Value} {p : List ByteArray} (h : OwnStrs W base v p) (e : W'.heap = W.heap) : OwnStrs W' base v p := own_heap h (fun j _ => by rw [e])
theorem OwnStrs.alloc {W : World} {base : Nat} {v : Value} {p : List ByteArray} (h : OwnStrs W base v p) (o : Obj) : OwnStrs (W.alloc o) base v p := own_heap h (fun k hk => Below.heap_alloc W o k hk)
theorem new_cell_at (W W' : World) (y : ByteArray) (t : TypeId) (k : Nat) (h : W'.heap = (W.alloc (.cells #[.string y] t)).heap) (hk : k = W.heap.size) : W'.cell? ⟨k, 0, none⟩ = some (.string y) := by
  subst hk
  exact (World.cell?_of_block (by rw [h])).trans (new_cell W y t)
theorem own_empty_at (W W' : World) (base k : Nat) (h : W'.heap = (W.alloc (.cells #[] 9)).heap) (hk : k = W.heap.size) (hb : base ≤ W.heap.size) : OwnStrs W' base (.slice (some ⟨k, 0, none⟩) 0 0) [] := by
  subst hk
  exact (own_empty W base hb).heq h
theorem calls_from {f : FuncId} {args : Array Value} {w W : World} {v : Value} (hb : Below w.heap.size w W) (c : Calls Tryd.prog f args W fun e w' => e = .returned v ∧ Below W.heap.size W w') :
    Calls Tryd.prog f args W fun e w' => e = .returned v ∧ Below w.heap.size w w' := c.mono fun _ _ ⟨h, h2⟩ => ⟨h, hb.trans (h2.mono hb.size)⟩
theorem cell_alloc {W : World} {p : Addr} {v : Value} (h : W.cell? p = some v) (o : Obj) : (W.alloc o).cell? p = some v := (World.cell?_of_block (Below.heap_alloc W o p.block (World.block_lt_of_cell? W p h))).trans h
theorem slice_tl {W : World} (ad : Option Addr) (n c : Nat) (p : List ByteArray) (H : Holds W ad c p) (hn : p.length = n) (h0 : 0 < n) :
    ∃ ad', (∀ w, (Instr.slice 26 (.slice ad n c) (some (.int .i64 1)) none none).run Tryd.prog w = .ok (.slice ad' (n - 1) (c - 1)) w) ∧ Holds W ad' (c - 1) (p.drop 1) := by
  obtain ⟨b, o, rfl, hlb, hS⟩ := H.at (by omega)
  have h1 := H.1
  have h2 := H.2.1
  by_cases hc : c = 1
  · subst hc
    refine ⟨some ⟨b, o, none⟩, fun w => ?_, by simp; omega, by simp; omega, .inl ?_⟩
    · rw [run_slice_l w _ _ _ _ strs_elem .i64 _ (by omega) (by omega), strs_size]
      simp [Result.andThen, sliced]
    · exact List.drop_eq_nil_of_le (by omega)
  · exact ⟨some ⟨b, o + 1, none⟩, fun w => slice_hi b o n c 1 (by omega) (by omega) w, by simp; omega, by simp; omega, .inr ⟨b, o + 1, rfl, hlb, hS.drop 1⟩⟩

/-- append of a list to a row of one's own; what else lies there stays. -/
theorem run_push_all' (w w0 : World) (n : Nat) (ty : TypeId) (v : Value) (l p : List ByteArray) (hown : OwnStrs w n v l) (hb : Below n w0 w) (hn : n ≤ w.heap.size) (x : Value) (pn : Nat) (ho : ∃ base, OwnStrs w base x p) (hpn : p.length = pn) (hl : l.length ≤ 100000) (hp : pn ≤ 100000) :
    ∃ v' w', (Builtin.append_ #[26, 26] ty #[v, x]).run Tryd.prog w = .ok v' w' ∧ OwnStrs w' n v' (l ++ p) ∧ Below n w0 w' ∧ w.grownBy w' v.ownBlock := by
  obtain ⟨i0, hi, hz0, hz1, hz2⟩ := info_parts strs_info
  subst hpn
  obtain ⟨base, ho⟩ := ho
  obtain ⟨_, ⟨rfl, h0⟩ | ⟨g, cap, cur, rfl, hg, hh, h1, h2, h3, h4⟩⟩ := ho
  · have hp0 : p = [] := List.eq_nil_of_length_eq_zero h0
    subst hp0
    refine ⟨v, w, run_append_owned_none (P := Tryd.prog) (w := w) n 26 ty 9 i0 1 Tryd.underlying26 hi v l.length (strVals l) hown, by rw [List.append_nil]; exact hown, hb, rfl, rfl, rfl, Nat.le_refl _, fun _ _ _ => rfl⟩
  · obtain ⟨v', w', hrun, r1, r2, _⟩ := run_append_own (P := Tryd.prog) w n 26 ty 9 i0 (.string ByteArray.empty) 1 16 Tryd.underlying26 hi hz0 hz1 hz2 rfl (by decide) v l.length (strVals l) hown
      ⟨g, 0, none⟩ p.length cap (strVals p) (by simp [strVals]) (by
        intro j u hj
        have hjl : j < p.length := by
          rcases Nat.lt_or_ge j p.length with h | h
          · exact h
          · rw [List.getElem?_eq_none (by simp [strVals]; omega)] at hj; cases hj
        have e : (⟨g, 0, none⟩ : Addr).add j = ⟨g, j, none⟩ := by unfold Addr.add; split <;> simp_all
        rw [e, cell_of_row w g j cur _ _ hh, ← hj, ← h4, List.getElem?_take_of_lt (by omega)]
        simp) (by
        intro u hu
        simp only [strVals, List.mem_map] at hu
        obtain ⟨s, _, rfl⟩ := hu
        rfl) (by unfold maxLen; omega) (by omega) hn
    refine ⟨v', w', hrun, ?_, hb.grown r2 hn (own_ge hown), r2⟩
    unfold OwnStrs strVals
    rw [List.map_append, List.length_append]
    exact r1

theorem step_push_all' {ops : Array Oper} {o : Oper} {a : Act} {w w0 : World} {K : Act → World → Prop} {Q : Exit → Act → World → Prop} {E : Prop}
    (hgd : o.guard = none) (s x : Operand) (hop : o.op = Op.call { callee := Callee.builtin Builtin.append, args := #[s, x], argTypes := #[26, 26] })
    (n : Nat) (v : Value) (l p : List ByteArray) (hs : a.eval s = v) (hown : OwnStrs w n v l) (hb : Below n w0 w) (hn : n ≤ w.heap.size) (xv : Value) (hx : a.eval x = xv) (pn : Nat) (ho : ∃ base, OwnStrs w base xv p) (hpn : p.length = pn) (hl : l.length ≤ 100000) (hp : pn ≤ 100000)
    (hK : ∀ v' w', OwnStrs w' n v' (l ++ p) → Below n w0 w' → w.grownBy w' v.ownBlock → K (a.put o.dst v') w') :
    if Region.wanted o (yielded ops a.tmps) = true then Oper.wp Tryd.prog o a w K Q else E := by
  have hw : Region.wanted o (yielded ops a.tmps) = true := by simp [Region.wanted, hgd]
  rw [if_pos hw]
  obtain ⟨v', w', hrun, r1, r2, r3⟩ := run_push_all' w w0 n o.type v l p hown hb hn xv pn ho hpn hl hp
  unfold Oper.wp
  simp [execOp, hop, resolve, invoke, builtin, hs, hx, hrun, Result.andThen]
  exact hK v' w' r1 r2 r3

set_option maxRecDepth 100000 in
set_option maxHeartbeats 4000000 in
theorem acc_walk (ad0 : Option Addr) (n0 c0 : Nat) (t : Nat → ByteArray) (m : Int) (hn : n0 ≤ maxLen) (w : World) (hI : StrsIn w ad0 n0 t) (hm0 : -9223372036854775808 ≤ m) (hm1 : m ≤ 9223372036854775807) (hR : Ready w) :
    Calls Tryd.prog 6 #[.slice ad0 n0 c0, .int .i64 m] w fun e w' => e = .returned (.bool true) ∧ Below w.heap.size w w' := by
  have HI := Lib.hid hI; have HR := Lib.hid hR
  clear hI hR
  obtain ⟨M, hM⟩ : ∃ M, min n0 40 = M := ⟨_, rfl⟩
  have hM25 : M ≤ 40 := by omega
  obtain ⟨l, hl⟩ : ∃ l, fewL t M = l := ⟨_, rfl⟩
  have hll : l.length = M := by rw [← hl]; exact fewL_length t M
  have hsm : Small l := by rw [← hl]; exact small60
  have HM := Lib.hid hM; have HL := Lib.hid hl; have HLL := Lib.hid hll; have HSM := Lib.hid hsm
  clear hM hl hll hsm
  go_enter Tryd.func6, Tryd.ntmps6
  go_wp2_with fail
  refine (sane_any _ HR.out).mono ?_
  rintro e w1 ⟨rfl, b1⟩
  have hI1 : Hid (StrsIn w1 ad0 n0 t) := by
    rcases HI.out with h | ⟨b, o, rfl, hlt, hc⟩
    · exact Or.inl h
    · exact Or.inr ⟨b, o, rfl, Nat.lt_of_lt_of_le hlt b1.size, fun i hi => ⟨(b1.cell (p := ⟨b, o + i, none⟩) hlt).trans (hc i hi).1, (hc i hi).2⟩⟩
  have hc1 : Calls Tryd.prog 21 #[.slice ad0 n0 c0, .int .i64 40] w1 (ListPost w1.heap.size w1 l) := by
    have := few_any ad0 n0 c0 t 40 hn (by decide) w1 hI1.out
    rw [HM.out, HL.out] at this
    exact this
  have HC1 := Lib.hid hc1
  clear hc1
  go_wp2_with fail
  refine HC1.out.mono ?_
  rintro e w2 ⟨v, rfl, ho, b2⟩
  obtain ⟨ad, cap, rfl, hh, hsp⟩ := own_holds' M ho HLL.out (by omega)
  have hcap := hh.1
  rw [HLL.out] at hcap
  have K := Lib.hid (Keeps.mk (w := w) (W := w2) (b1.trans (b2.mono b1.size)) hh ((HR.out.below b1).below b2))
  clear ho hh b1 b2 HC1 hI1 hsp
  have cR : ∀ W, Keeps w W ad cap l → Calls Tryd.prog 27 #[.slice ad M cap] W fun e w' => e = .returned (.string (rootF l)) ∧ Below W.heap.size W w' := fun W h => by
    have := root_holds h.hh HSM.out h.hr
    rwa [HLL.out] at this
  have CR := Lib.hid cR
  clear cR
  go_wp2_with fail
  refine (CR.out _ K.out).mono ?_
  rintro e w3 ⟨rfl, b3⟩
  have K3 := Lib.hid (K.out.go b3)
  clear b3 K
  obtain ⟨R, hRt⟩ : ∃ R, rootF l = R := ⟨_, rfl⟩
  rw [hRt]
  have HRT := Lib.hid hRt
  clear hRt
  go_wp2_with fail
  go_loopw [7] (fun i wr => ∃ k : Nat, k ≤ M ∧ i = .int .i64 k ∧ Hid (Keeps w wr ad cap l)) (fun i _ => M - (RowKit.intOf i).toNat)
  case atStart => exact ⟨0, by omega, rfl, K3⟩
  case round =>
    obtain ⟨k, hk, rfl, KR⟩ := hrel
    by_cases hlt : k < M
    · have hk1 : (k : Int) < (M : Int) := by omega
      have hkl : k < l.length := by rw [HLL.out]; exact hlt
      have hx := proofF_dig l.length l k (Nat.le_refl _)
      have ce := proof_ok l k ad cap wr (by rw [HLL.out]; omega) hkl KR.out.hh HSM.out KR.out.hr
      have hver := verb_yes l k hkl
      have hplen : ∀ j, M < 2 ^ j → (proofF l k).length ≤ j := fun j hj => proofF_length j l k (by rw [HLL.out]; omega)
      have hsk := HSM.out l[k] (List.getElem_mem _)
      obtain ⟨b, o, rfl, hlb, hS⟩ := KR.out.hh.at (by omega)
      have hcell := fun W (hb : Below wr.heap.size wr W) => (hS.below hb hlb) k hkl
      obtain ⟨sk, hske⟩ : ∃ s, l[k] = s := ⟨_, rfl⟩
      rw [hske] at hver hsk hcell
      obtain ⟨p, hp⟩ : ∃ p, proofF l k = p := ⟨_, rfl⟩
      rw [hp] at ce hx hver hplen
      rw [HRT.out, HLL.out] at hver
      rw [HLL.out] at ce
      have hp25 : p.length ≤ 100 := by have := hplen 6 (by omega); omega
      obtain ⟨pn, hpn⟩ : ∃ n, p.length = n := ⟨_, rfl⟩
      have CE := Lib.hid ce; have HV := Lib.hid hver; have HPL := Lib.hid hplen; have HPN := Lib.hid hpn; have HX := Lib.hid hx; have HCE := Lib.hid hcell
      rw [hpn] at hp25
      clear ce hver hplen hpn hx hp hske hS hcell hkl hlb
      go_wp2_with fail
      refine CE.out.mono ?_
      rintro e w4 ⟨v4, rfl, ho4, b4⟩
      obtain ⟨ad4, cap4, rfl, hh4⟩ := own_holds pn ho4 HPN.out (by omega)
      have K4 := Lib.hid (KR.out.go b4)
      have H4 := Lib.hid hh4
      have hcell := HCE.out w4 b4
      clear ho4 hh4 b4
      go_wp2_with fail
      refine (binary_any M (by omega) _).mono ?_
      rintro e w5 ⟨⟨j, rfl, hj, hj1⟩, rfl⟩
      have hpj := HPL.out j hj
      rw [HPN.out] at hpj
      have hpj2 : ¬ (j : Int) < (pn : Int) := by omega
      clear hj
      have cv := ver_any R M k sk p ad4 cap4 w4 (by omega) hsk H4.out (small_dig HX.out) K4.out.hr
      rw [HV.out, HPN.out] at cv
      have CV := Lib.hid cv
      clear cv
      go_wp2_with fail
      refine CV.out.mono ?_
      rintro e w7 ⟨rfl, b7⟩
      have K7 := Lib.hid (K4.out.go b7)
      clear b7
      go_wp2
      go_roundw
      case rel => exact ⟨k + 1, by omega, by go_num, K7⟩
      case measure => simp [RowKit.intOf]; omega
    · have hk1 : ¬ (k : Int) < (M : Int) := by omega
      obtain ⟨wo, hwo⟩ : ∃ wo : World, wo = wr := ⟨_, rfl⟩
      rw [← hwo] at KR ⊢
      clear hwo hlt
      by_cases hin : 0 ≤ m ∧ m < (M : Int)
      · obtain ⟨j, rfl⟩ := Int.eq_ofNat_of_zero_le hin.1
        have hj2 : (j : Int) < (M : Int) := hin.2
        have hjl : j < l.length := by rw [HLL.out]; omega
        have ce := proof_ok l j ad cap wo (by rw [HLL.out]; omega) hjl KR.out.hh HSM.out KR.out.hr
        rw [HLL.out] at ce
        have hno := verb_no l j hjl
        have hsk := HSM.out l[j] (List.getElem_mem _)
        have hx := proofF_dig l.length l j (Nat.le_refl _)
        have hp40 := proofF_length 6 l j (by rw [HLL.out]; omega)
        obtain ⟨b, o, rfl, hlb, hS⟩ := KR.out.hh.at (by omega)
        have hcell := fun W (hb : Below wo.heap.size wo W) => (hS.below hb hlb) j hjl
        obtain ⟨sk, hske⟩ : ∃ s, l[j] = s := ⟨_, rfl⟩
        rw [hske] at hno hsk hcell
        obtain ⟨p, hp⟩ : ∃ p, proofF l j = p := ⟨_, rfl⟩
        rw [hp] at ce hno hx hp40
        rw [HRT.out, HLL.out] at hno
        obtain ⟨pn, hpn⟩ : ∃ n, p.length = n := ⟨_, rfl⟩
        rw [hpn] at hp40 hno
        have hRs : R.size = 32 := by rw [← HRT.out]; exact rootF_size l
        -- Verify with a proof of another length
        have cv : ∀ (q : List ByteArray) (ad' : Option Addr) (n' cap' : Nat) (W : World), q.length = n' → n' ≠ pn → Small q → Holds W ad' cap' q → Ready W →
            Calls Tryd.prog 29 #[.string R, .int .i64 (M : Nat), .int .i64 (j : Nat), .string sk, .slice ad' n' cap'] W fun e w' => e = .returned (.bool false) ∧ Below W.heap.size W w' := fun q ad' n' cap' W hqn hq hq2 hh hk => by
          subst hqn
          have c := ver_any R M j sk q ad' cap' W (by omega) hsk hh hq2 hk
          rwa [hno q hq] at c
        have CE := Lib.hid ce; have HPN := Lib.hid hpn; have HX := Lib.hid hx; have HCE := Lib.hid hcell; have CV := Lib.hid cv
        have HSP : Hid (Small p) := small_dig HX.out
        have hlr : (p ++ [R]).length = pn + 1 := by rw [List.length_append, hpn]; rfl
        have HSR : Hid (Small (p ++ [R])) := by
          intro s hs
          rcases List.mem_append.1 hs with h | h
          · exact HSP.out s h
          · simp at h; subst h; omega
        clear ce hno hpn hx hp hske hS hcell hjl hin cv hRs
        go_wp2_with fail
        refine CE.out.mono ?_
        rintro e w4 ⟨v4, rfl, ho4, b4⟩
        obtain ⟨ad4, cap4, rfl, hh4, hsp4⟩ := own_holds' pn ho4 HPN.out (by omega)
        have K4 := Lib.hid (KR.out.go b4)
        have H4 := Lib.hid hh4
        have O4 := Lib.hid ho4
        have hcell := HCE.out w4 b4
        have hlt4 : b < w4.heap.size := Nat.lt_of_lt_of_le hlb b4.size
        clear ho4 hh4 b4 hsp4 hlb
        go_wp2_with fail
        go_region_held3 (fun w' => w'.cell? ⟨b, o + j, none⟩ = some (.string sk))
          (first | go_keep | exact hcell | exact (hb7.cell (p := ⟨b, o + j, none⟩) hlt4).trans hcell | exact (hb6.cell (p := ⟨b, o + j, none⟩) hlt4).trans hcell | exact (hb5.cell (p := ⟨b, o + j, none⟩) hlt4).trans hcell)
          (first
            | (refine step_push_all' (w0 := w4) rfl _ _ rfl w4.heap.size _ [] p rfl (by first | exact (own_empty w4 w4.heap.size (Nat.le_refl _)).heq rfl | exact ((own_empty w4 w4.heap.size (Nat.le_refl _)).alloc _).heq rfl | exact own_empty_at (w4.alloc _) _ w4.heap.size _ rfl (by simp) (by simp)) (by first | exact below_same ((Below.refl _ _).alloc (Nat.le_refl _) _) rfl rfl rfl rfl | exact below_same (((Below.refl _ _).alloc (Nat.le_refl _) _).alloc (by simp) _) rfl rfl rfl rfl) (by first | (simp; done) | (simp; omega)) _ rfl pn ⟨_, (by first | exact O4.out.heq rfl | exact (O4.out.alloc _).heq rfl | exact ((O4.out.alloc _).alloc _).heq rfl)⟩ HPN.out (by decide) (by omega) ?_; intro v5 W5 ho5 hb5 hg5)
            | (refine step_push (w0 := w4) rfl _ _ rfl w4.heap.size v5 p rfl (by first | exact OwnStrs.heq ho5 rfl | exact OwnStrs.heq (OwnStrs.alloc ho5 _) rfl) (by first | exact below_same hb5 rfl rfl rfl rfl | exact below_same (hb5.alloc hb5.size _) rfl rfl rfl rfl) (by first | exact hb5.size | exact Nat.le_trans hb5.size (by simp)) _ _ R rfl (by first | exact new_cell W5 R _ | exact hg5.cell (a := ⟨w4.heap.size + 1, 0, none⟩) (new_cell_at (w4.alloc _) _ R _ _ rfl (by simp)) (by show some (w4.heap.size + 1) ≠ some w4.heap.size; simp) | exact (hg5.cell (a := ⟨w4.heap.size, 0, none⟩) (by exact cell_alloc (new_cell w4 R _) _) (by show some w4.heap.size ≠ some (w4.heap.size + 1); simp))) (by rw [HPN.out]; omega) ?_; intro v6 W6 ho6 hb6; obtain ⟨ad6, cap6, rfl, hh6, hsp6⟩ := own_holds' (pn + 1) ho6 hlr (by omega))
            | (go_simp; go_at_call 29; (with_reducible refine (CV.out (p ++ [R]) _ _ _ _ hlr (by omega) HSR.out ?_ ?_).mono ?_); exact hh6; exact (K4.out.go hb6).hr; rintro e w7 ⟨rfl, b7⟩; have hb7 : Below w4.heap.size w4 w7 := hb6.trans (Below.mono b7 hb6.size)))
        all_goals (
          have hcell7 := (hb7.cell (p := ⟨b, o + j, none⟩) hlt4).trans hcell
          have K7 := Lib.hid (K4.out.go hb7)
          have H7 := Lib.hid (H4.out.below hb7 (Nat.le_refl _))
          have hlt7 : b < w7.heap.size := Nat.lt_of_lt_of_le hlt4 hb7.size
          clear hcell hb6 hb7 b7 ho6 hh6 hsp6 hlt4 K4 H4 O4 KR K3 CE HCE CR HI HR
          by_cases h0 : pn = 0
          · have h1 : ¬ (0 : Int) < (pn : Int) := by omega
            have h2 : decide ((0 : Int) < (pn : Int)) = false := decide_eq_false h1
            clear H7
            go_wp2_with fail
            go_quiet (fail)
            go_wp2_with fail
            go_ret
            exact ⟨rfl, below_same K7.out.hb rfl rfl rfl rfl⟩
          · have h1 : (0 : Int) < (pn : Int) := by omega
            have h2 : 0 < pn := by omega
            have h3 : decide ((0 : Int) < (pn : Int)) = true := decide_eq_true h1
            have h4 : decide (0 < pn) = true := decide_eq_true h2
            obtain ⟨ad8, hsl, hh8⟩ := slice_tl ad4 pn cap4 p H7.out HPN.out (by omega)
            have c8 := fun W (hb : Below w7.heap.size w7 W) => calls_from hb (CV.out (p.drop 1) ad8 (pn - 1) (cap4 - 1) W (by rw [List.length_drop, HPN.out]) (by omega) (fun s hs => HSP.out s (List.mem_of_mem_drop hs)) (hh8.below hb (Nat.le_refl _)) (K7.out.hr.below hb))
            have C8 := Lib.hid c8
            clear c8 hh8 H7 CV HPN HX HSP HSR hlr
            go_wp2_with fail
            go_region_held3 (fun w' => w'.cell? ⟨b, o + j, none⟩ = some (.string sk)) (first | go_keep | exact hcell7 | exact (b8.cell (p := ⟨b, o + j, none⟩) hlt7).trans hcell7)
              (first | (go_at_call 29; (with_reducible refine (C8.out w7.drew (below_same (Below.refl _ _) rfl rfl rfl rfl)).mono ?_); rintro e w8 ⟨rfl, b8⟩))
            have K8 := Lib.hid (K7.out.go b8)
            clear b8
            go_wp2
            go_ret
            exact ⟨rfl, K8.out.hb⟩)
      · have hbad : m < 0 ∨ (M : Int) ≤ m := by omega
        have ce := proof_bad ad M cap m hbad wo
        have cv := ver_any R M m ByteArray.empty [] none 0 wo (by omega) (by decide) (Holds.nil _ _) (by intro s hs; cases hs) KR.out.hr
        rw [verb_out _ _ _ _ _ hin] at cv
        have CE := Lib.hid ce; have CV := Lib.hid (show Calls Tryd.prog 29 #[.string R, .int .i64 (M : Nat), .int .i64 m, .string { data := #[] }, .slice none 0 0] wo _ from cv)
        clear ce cv hin
        by_cases h0 : m < 0
        · have h1 : decide (0 ≤ m) = false := decide_eq_false (by omega)
          have h2 : ¬ 0 ≤ m := by omega
          clear hbad
          go_wp2_with fail
          refine CE.out.mono ?_
          rintro e w4 ⟨rfl, rfl⟩
          go_wp2_with fail
          refine CV.out.mono ?_
          rintro e w5 ⟨rfl, b5⟩
          have K5 := Lib.hid (KR.out.go b5)
          clear b5
          go_wp2
          go_ret
          exact ⟨rfl, K5.out.hb⟩
        · have h1 : 0 ≤ m := by omega
          have h2 : (M : Int) ≤ m := by omega
          have h3 : decide (m < (M : Int)) = false := decide_eq_false (by omega)
          clear hbad
          go_wp2_with fail
          refine CE.out.mono ?_
          rintro e w4 ⟨rfl, rfl⟩
          go_wp2_with fail
          refine CV.out.mono ?_
          rintro e w5 ⟨rfl, b5⟩
          have K5 := Lib.hid (KR.out.go b5)
          clear b5
          go_wp2
          go_ret
          exact ⟨rfl, K5.out.hb⟩
end Go.Proofs.YtoaaelnmbpmbeaaDoor
