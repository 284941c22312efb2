/-
  DigestSplit returns true for all arguments: the walk.
-/
import Derived.Test.YtoaaelnmbpmbeaaDoorLawProof
namespace Go.Proofs.YtoaaelnmbpmbeaaDoor
open Go Go.Proofs Go.RowKit Go.Lib

theorem keep_same {w W W' : World} {ad : Option Addr} {cap : Nat} {l : List ByteArray} (h : Keeps w W ad cap l) (ho : W'.os = W.os) (ht : W'.tape = W.tape) (hp : W'.output = W.output) (hh : W'.heap = W.heap) : Keeps w W' ad cap l :=
  h.go (below_same (Below.refl _ _) ho ht hp hh)
theorem Keeps.on {w W W' W2 : World} {ad : Option Addr} {cap : Nat} {l : List ByteArray} (h : Keeps w W ad cap l) (b : Below W'.heap.size W' W2) (ho : W'.os = W.os) (ht : W'.tape = W.tape) (hp : W'.output = W.output) (hh : W'.heap = W.heap) : Keeps w W2 ad cap l :=
  (keep_same h ho ht hp hh).go b

set_option maxRecDepth 100000 in
set_option maxHeartbeats 4000000 in
theorem split_walk (ad0 : Option Addr) (n0 c0 : Nat) (t : Nat → ByteArray) (s0 : ByteArray) (hn : n0 ≤ maxLen) (w : World) (hI : StrsIn w ad0 n0 t) (hs0 : s0.size ≤ maxLen) (hR : Ready w) :
    Calls Tryd.prog 11 #[.slice ad0 n0 c0, .string s0] w fun e w' => e = .returned (.bool true) ∧ Below w.heap.size w w' := by
  unfold maxLen at hs0
  have HI := Lib.hid hI; have HR := Lib.hid hR
  clear hI hR
  obtain ⟨M, hM⟩ : ∃ M, min n0 40 = M := ⟨_, rfl⟩
  have hM40 : M ≤ 40 := by omega
  obtain ⟨l, hl⟩ : ∃ l, fewL t M = l := ⟨_, rfl⟩
  have hll : l.length = M := by rw [← hl]; exact fewL_length t M
  have hsm : Small l := by rw [← hl]; exact small60
  have HM := Lib.hid hM; have HL := Lib.hid hl; have HLL := Lib.hid hll; have HSM := Lib.hid hsm
  clear hM hl hll hsm
  go_enter Tryd.func11, Tryd.ntmps11
  go_wp2_with fail
  refine (sane_any _ HR.out).mono ?_
  rintro e w1 ⟨rfl, b1⟩
  have hI1 : Hid (StrsIn w1 ad0 n0 t) := by
    rcases HI.out with h | ⟨b, o, rfl, hlt, hc⟩
    · exact Or.inl h
    · exact Or.inr ⟨b, o, rfl, Nat.lt_of_lt_of_le hlt b1.size, fun i hi => ⟨(b1.cell (p := ⟨b, o + i, none⟩) hlt).trans (hc i hi).1, (hc i hi).2⟩⟩
  have hc1 : Calls Tryd.prog 21 #[.slice ad0 n0 c0, .int .i64 40] w1 (ListPost w1.heap.size w1 l) := by
    have := few_any ad0 n0 c0 t 40 hn (by decide) w1 hI1.out
    rw [HM.out, HL.out] at this
    exact this
  have HC1 := Lib.hid hc1
  clear hc1
  go_wp2_with fail
  refine HC1.out.mono ?_
  rintro e w2 ⟨v, rfl, ho, b2⟩
  obtain ⟨ad, cap, rfl, hh, hsp⟩ := own_holds' M ho HLL.out (by omega)
  have hcap := hh.1
  rw [HLL.out] at hcap
  have K := Lib.hid (Keeps.mk (w := w) (W := w2) (b1.trans (b2.mono b1.size)) hh ((HR.out.below b1).below b2))
  have HO := Lib.hid ho
  clear ho hh b1 b2 HC1 hI1
  obtain ⟨m, hm⟩ : ∃ m, m = min s0.size 60 := ⟨_, rfl⟩
  have hmn1 : min (s0.size : Int) 60 = (m : Int) := by omega
  have hmn2 : (if (60 : Int) < (s0.size : Int) then (60 : Int) else (s0.size : Int)) = (m : Int) := by split <;> omega
  obtain ⟨C, hC⟩ : ∃ C, cut60 s0 = C := ⟨_, rfl⟩
  have hCe : s0.extract 0 m = C := by rw [← hC, hm]; rfl
  have hCs : C.size ≤ 60 := by rw [← hC]; exact cut60_size s0
  have hsl := slice_to 9 Tryd.underlying9 s0 m (by omega) C hCe
  clear hC hCe hm
  obtain ⟨L2, hL2⟩ : ∃ L2, l ++ [C] = L2 := ⟨_, rfl⟩
  have h2l : L2.length = M + 1 := by rw [← hL2, List.length_append, HLL.out]; rfl
  have h2s : Small L2 := by
    intro s hs
    rw [← hL2] at hs
    rcases List.mem_append.1 hs with h | h
    · exact HSM.out s h
    · simp at h; subst h; omega
  have h2t : L2.take M = l := by rw [← hL2, ← HLL.out]; simp
  have HL2 := Lib.hid hL2; have H2L := Lib.hid h2l; have H2S := Lib.hid h2s; have H2T := Lib.hid h2t
  clear hL2 h2l h2s h2t
  have cR : ∀ W, Keeps w W ad cap l → Calls Tryd.prog 27 #[.slice ad M cap] W fun e w' => e = .returned (.string (rootF l)) ∧ Below W.heap.size W w' := fun W h => by
    have := root_holds h.hh HSM.out h.hr
    rwa [HLL.out] at this
  have CR := Lib.hid cR
  clear cR
  go_wp2_with (first
    | (at_builtin; refine walk_push_all (w0 := w2) rfl _ _ rfl w2.heap.size _ [] l rfl (own_empty w2 w2.heap.size (Nat.le_refl _)) ((Below.refl _ _).alloc (Nat.le_refl _) _) (by simp) _ rfl M ⟨w1.heap.size, OwnStrs.alloc HO.out _⟩ HLL.out (by decide) (by omega) ?_; intro v3 W3 ho3 hb3)
    | (at_builtin; refine walk_push_all (w0 := w2) rfl _ _ rfl w2.heap.size v3 l [C] rfl (OwnStrs.alloc ho3 _) (hb3.alloc hb3.size _) (Nat.le_trans hb3.size (by simp)) _ rfl 1 ⟨0, own_one W3 0 C (Nat.zero_le _)⟩ rfl (by rw [HLL.out]; omega) (by decide) ?_; intro v4 W4 ho4 hb4))
  have h2len : (l ++ [C]).length = M + 1 := by rw [List.length_append, HLL.out]; rfl
  obtain ⟨ad4, cap4, rfl, hh4, hsp4⟩ := own_holds' (M + 1) ho4 h2len (by omega)
  rw [HL2.out] at hh4
  have hcap4 := hh4.1
  rw [H2L.out] at hcap4
  have K4 := Lib.hid (K.out.go hb4)
  have J4 := Lib.hid (Keeps.mk K4.out.hb hh4 K4.out.hr)
  obtain ⟨b4, o4, rfl, hlb4, _⟩ := hh4.at (by rw [H2L.out]; omega)
  clear ho4 hb4 hh4 ho3 hb3 K HO hsp4 hlb4 HI
  obtain ⟨R2, hR2⟩ : ∃ R2, rootF L2 = R2 := ⟨_, rfl⟩
  have hR2s : R2.size = 32 := by rw [← hR2]; exact rootF_size L2
  have cR2 : ∀ W, Keeps w W (some ⟨b4, o4, none⟩) cap4 L2 → Calls Tryd.prog 27 #[.slice (some ⟨b4, o4, none⟩) (M + 1) cap4] W fun e w' => e = .returned (.string R2) ∧ Below W.heap.size W w' := fun W h => by
    have := root_holds h.hh H2S.out h.hr
    rwa [H2L.out, hR2] at this
  have CR2 := Lib.hid cR2
  clear cR2
  obtain ⟨R, hR⟩ : ∃ R, rootF l = R := ⟨_, rfl⟩
  have hRs : R.size = 32 := by rw [← hR]; exact rootF_size l
  rw [hR] at CR
  have ce := ext_call L2 M (some ⟨b4, o4, none⟩) cap4 W4 (by rw [H2L.out]; omega) (by rw [H2L.out]; omega) J4.out.hh H2S.out J4.out.hr
  have hx := extP_dig L2 M
  have hver := verx_yes L2 M (by rw [H2L.out]; omega)
  have hpl := extP_length L2 M 6 (by rw [H2L.out]; omega) (by rw [H2L.out]; omega)
  obtain ⟨p, hp⟩ : ∃ p, extP L2 M = p := ⟨_, rfl⟩
  rw [hp] at ce hx hpl
  rw [show (if M = 0 then [] else partF L2 M true) = p from hp, H2T.out, hR, hR2, H2L.out] at hver
  rw [H2L.out] at ce
  obtain ⟨pn, hpn⟩ : ∃ n, p.length = n := ⟨_, rfl⟩
  rw [hpn] at hpl
  have CE := Lib.hid ce; have HV := Lib.hid hver; have HPN := Lib.hid hpn; have HX := Lib.hid hx; have HR1 := Lib.hid hR; have HR2 := Lib.hid hR2
  clear ce hver hpn hx hp hR hR2
  refine CE.out.mono ?_
  rintro e w5 ⟨v5, rfl, ho5, b5⟩
  obtain ⟨ad5, cap5, rfl, hh5⟩ := own_holds pn ho5 HPN.out (by omega)
  have K5 := Lib.hid (K4.out.go b5); have J5 := Lib.hid (J4.out.go b5); have H5 := Lib.hid hh5
  clear ho5 hh5 b5 K4 J4
  go_wp2_with fail
  refine (CR.out _ K5.out).mono ?_
  rintro e w6 ⟨rfl, b6⟩
  have K6 := Lib.hid (K5.out.go b6); have J6 := Lib.hid (J5.out.go b6); have H6 := Lib.hid (H5.out.below b6 (Nat.le_refl _))
  clear b6 K5 J5 H5
  go_wp2_with fail
  refine (CR2.out _ J6.out).mono ?_
  rintro e w7 ⟨rfl, b7⟩
  have K7 := Lib.hid (K6.out.go b7); have J7 := Lib.hid (J6.out.go b7); have H7 := Lib.hid (H6.out.below b7 (Nat.le_refl _))
  clear b7 K6 J6 H6
  have cv := verx_any R M R2 (M + 1 : Nat) p ad5 cap5 w7 (by omega) (by omega) (by omega) H7.out (small_dig HX.out) K7.out.hr
  rw [HV.out, HPN.out] at cv
  have CV := Lib.hid cv
  clear cv
  go_wp2_with fail
  refine CV.out.mono ?_
  rintro e w8 ⟨rfl, b8⟩
  have K8 := Lib.hid (K7.out.go b8); have J8 := Lib.hid (J7.out.go b8)
  clear b8 K7 J7 H7 CV CE HV
  by_cases h0 : M = 0
  · subst h0
    have hl0 : l = [] := List.eq_nil_of_length_eq_zero HLL.out
    have hle : leafF C = R2 := by rw [← HR2.out, ← HL2.out, hl0]; exact (rootF_one C).symm
    have hse : sha ByteArray.empty = R := by rw [← HR1.out, hl0]; exact rootF_nil.symm
    have HLE := Lib.hid hle; have HSE := Lib.hid hse
    clear hl0 hle hse
    go_wp2_with fail
    refine (CR2.out _ J8.out).mono ?_
    rintro e w9 ⟨rfl, b9⟩
    have K9 := Lib.hid (K8.out.go b9); have J9 := Lib.hid (J8.out.go b9)
    clear b9 K8 J8
    have c9 := leaf_any C (by omega) w9 K9.out.hr
    rw [HLE.out] at c9
    have C9 := Lib.hid c9
    clear c9
    go_wp2_with fail
    refine C9.out.mono ?_
    rintro e w10 ⟨rfl, b10⟩
    have K10 := Lib.hid (K9.out.go b10)
    clear b10 K9 J9 C9
    go_wp2_with fail
    refine (CR.out _ K10.out).mono ?_
    rintro e w11 ⟨rfl, b11⟩
    have K11 := Lib.hid (K10.out.go b11)
    clear b11 K10
    have c12 := sum_any ByteArray.empty (by decide) w11 K11.out.hr
    rw [HSE.out] at c12
    have C12 := Lib.hid (show Calls Tryd.prog 13 #[.string { data := #[] }] w11 _ from c12)
    clear c12
    go_wp2_with fail
    refine C12.out.mono ?_
    rintro e w12 ⟨rfl, b12⟩
    have K12 := Lib.hid (K11.out.go b12)
    clear b12 K11
    go_wp2
    go_ret
    exact ⟨rfl, K12.out.hb⟩
  · have h1 : ((M : Int) == 0) = false := by rw [beq_eq_false_iff_ne]; omega
    have hk := splitN_lt (n := M + 1) (by omega)
    have hk1 := splitN_pos (M + 1)
    have cl := left_any (M + 1) (by omega) (by omega) w8
    have hbig := rootF_big (l := L2) (by rw [H2L.out]; omega)
    rw [H2L.out, HR2.out] at hbig
    obtain ⟨k, ek⟩ : ∃ k, splitN (M + 1) = k := ⟨_, rfl⟩
    rw [ek] at hk hk1 cl hbig
    have hsl1 := fun w => slice_lo b4 o4 (M + 1) cap4 k (by omega) w
    have hsl2 := fun w => slice_hi b4 o4 (M + 1) cap4 k (by omega) (by omega) w
    have clo : ∀ W, Keeps w W (some ⟨b4, o4, none⟩) cap4 L2 → Calls Tryd.prog 27 #[.slice (some ⟨b4, o4, none⟩) k cap4] W fun e w' => e = .returned (.string (rootF (L2.take k))) ∧ Below W.heap.size W w' := fun W h => by
      have := root_holds (holds_take' h.hh k) (H2S.out.take k) h.hr
      rwa [show (L2.take k).length = k by rw [List.length_take, H2L.out]; omega] at this
    have chi : ∀ W, Keeps w W (some ⟨b4, o4, none⟩) cap4 L2 → Calls Tryd.prog 27 #[.slice (some ⟨b4, o4 + k, none⟩) (M + 1 - k) (cap4 - k)] W fun e w' => e = .returned (.string (rootF (L2.drop k))) ∧ Below W.heap.size W w' := fun W h => by
      obtain ⟨b', o', hbo, hlb, hS⟩ := h.hh.at (by rw [H2L.out]; omega)
      obtain ⟨rfl, rfl⟩ : b4 = b' ∧ o4 = o' := by simpa using hbo
      have hcl := h.hh.1
      rw [H2L.out] at hcl
      have hdl : (L2.drop k).length = M + 1 - k := by rw [List.length_drop, H2L.out]
      have := root_any (L2.drop k) b4 (o4 + k) (cap4 - k) W (by rw [hdl]; omega) (by rw [hdl]; omega) hlb (hS.drop k) (H2S.out.drop k) h.hr
      rwa [hdl] at this
    obtain ⟨r1, er1⟩ : ∃ r, rootF (L2.take k) = r := ⟨_, rfl⟩
    obtain ⟨r2, er2⟩ : ∃ r, rootF (L2.drop k) = r := ⟨_, rfl⟩
    have hr1 : r1.size = 32 := by rw [← er1]; exact rootF_size _
    have hr2 : r2.size = 32 := by rw [← er2]; exact rootF_size _
    rw [er1] at clo hbig
    rw [er2] at chi hbig
    have cn : ∀ W, Ready W → Calls Tryd.prog 17 #[.string r1, .string r2] W fun e w' => e = .returned (.string R2) ∧ Below W.heap.size W w' := fun W h => by
      have := node_any r1 r2 (by omega) (by omega) W h
      rwa [← hbig] at this
    have CL := Lib.hid cl; have CLO := Lib.hid clo; have CHI := Lib.hid chi; have CN := Lib.hid cn
    clear cl clo chi cn er1 er2 hbig ek
    go_wp2_with fail
    refine CL.out.mono ?_
    rintro e w9 ⟨rfl, rfl⟩
    go_wp2_with fail
    go_region_held3 (fun _ => True) (trivial)
      (first
        | (go_at_call 27; (with_reducible refine (CR2.out _ ?_).mono ?_); exact keep_same J8.out rfl rfl rfl rfl; rintro e wA ⟨rfl, bA⟩; have JA := Lib.hid (J8.out.on bA rfl rfl rfl rfl))
        | (go_at_call 27; (with_reducible refine (CLO.out _ ?_).mono ?_); exact keep_same JA.out rfl rfl rfl rfl; rintro e wB ⟨rfl, bB⟩; have JB := Lib.hid (JA.out.on bB rfl rfl rfl rfl))
        | (go_at_call 27; (with_reducible refine (CHI.out _ ?_).mono ?_); exact keep_same JB.out rfl rfl rfl rfl; rintro e wC ⟨rfl, bC⟩; have JC := Lib.hid (JB.out.on bC rfl rfl rfl rfl))
        | (go_at_call 17; (with_reducible refine (CN.out _ ?_).mono ?_); exact (keep_same JC.out rfl rfl rfl rfl).hr; rintro e wD ⟨rfl, bD⟩; have JD := Lib.hid (JC.out.on bD rfl rfl rfl rfl)))
    go_wp2
    go_ret
    exact ⟨rfl, JD.out.hb⟩

theorem split_walk0 (a0 : Option Addr) (n0 c0 : Nat) (s0 : ByteArray) (w : World) (h : n0 ≤ maxLen ∧ ∃ t, StrsIn w a0 n0 t) (hs0 : s0.size ≤ maxLen) (hT : HasK w) (h0 : 0 < w.heap.size) :
    Calls Tryd.prog 11 #[.slice a0 n0 c0, .string s0] w fun e w' => e = .returned (.bool true) ∧ Below w.heap.size w w' := by
  obtain ⟨l1, t, hI⟩ := h
  exact split_walk a0 n0 c0 t s0 l1 w hI hs0 ⟨hT, h0⟩
end Go.Proofs.YtoaaelnmbpmbeaaDoor
