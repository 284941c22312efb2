/-
  The contracts of the reference's power, grid, Down, Up and Print; powers of ten as texts.
-/
import Derived.Test.YtlcibnmcannapaaGreatDoorProdQ
import Derived.Test.YtlcibnmcannapaaGreatDoorChain
namespace Go.Proofs.YtlcibnmcannapaaGreatDoor
open Go Go.Proofs Go.RowKit Go.Lib

theorem digs_pow : ∀ k : Nat, digs (10 ^ k) = List.replicate k 0 ++ [1]
  | 0 => by decide +kernel
  | k + 1 => by
    have hp : 0 < 10 ^ k := Nat.pow_pos (by decide)
    have hd : IsDig (0 :: (List.replicate k 0 ++ [1])) := by
      intro d h
      simp only [List.mem_cons, List.mem_append, List.mem_replicate, List.not_mem_nil, or_false] at h
      omega
    have hc : Canon (0 :: (List.replicate k 0 ++ [1])) := by
      unfold Canon
      rw [← List.cons_append, List.getLast?_append]
      simp
    have h := digs_valD hd hc
    have hv : valD (List.replicate k 0 ++ [1]) = 10 ^ k := by
      rw [← digs_pow k]; exact valD_digs _
    rw [valD, hv] at h
    rw [Nat.pow_succ, show 10 ^ k * 10 = 0 + 10 * 10 ^ k by omega, h]
    rfl
theorem byteL_append (a b : List Nat) : byteL a ++ byteL b = byteL (a ++ b) := by
  unfold byteL
  apply ByteArray.ext
  rw [ByteArray.data_append]
  simp
theorem powT_list (k : Nat) : powT k = byteL (49 :: List.replicate k 48) := by
  have hp : 0 < 10 ^ k := Nat.pow_pos (by decide)
  have e : ((10 : Int) ^ k) = ((10 ^ k : Nat) : Int) := by rw [Int.natCast_pow]; rfl
  unfold powT textI textN
  rw [e, if_neg (by omega), Int.natAbs_natCast, if_neg (by omega), digs_pow, List.reverse_append, List.reverse_replicate, List.map_append, List.map_replicate]
  rfl
theorem powT_zero : powT 0 = ⟨#[49]⟩ := by rw [powT_list]; rfl
theorem powT_succ (k : Nat) : powT (k + 1) = powT k ++ ⟨#[48]⟩ := by
  rw [powT_list, powT_list, show (⟨#[48]⟩ : ByteArray) = byteL [48] from rfl, byteL_append, List.cons_append, ← List.replicate_succ']
theorem powT_size (k : Nat) : (powT k).size = k + 1 := by rw [powT_list, byteL_size]; simp
theorem powT_fits {k : Nat} (h : k < 200) : Fits ((10 : Int) ^ k) := by
  unfold Fits
  rw [Int.natAbs_pow]
  exact Nat.pow_lt_pow_right (by decide) h
theorem text_is0' (x : Int) : ((textI x).toList == [48]) = decide (x = 0) := by
  rw [← list48, str_eq_iff]
  exact decide_eq_decide.2 textI_zero
set_option maxHeartbeats 4000000 in
theorem power_any (n : Nat) (hn : n ≤ 30) (w : World) :
    Calls Tryz.prog 86 #[.int .i64 (n : Int)] w fun e w' => e = .returned (.string (powT n)) ∧ w' = w := by
  have h0 := powT_zero
  have H0 := Lib.hid h0
  clear h0
  go_enter Tryz.func86, Tryz.ntmps86
  go_wp2_with fail
  go_loopw [3, 4] (fun v i wr => ∃ k : Nat, k ≤ n ∧ v = .string (powT k) ∧ i = .int .i64 k ∧ wr = w) (fun _ i _ => n - (RowKit.intOf i).toNat)
  case atStart => exact ⟨0, Nat.zero_le _, by rw [H0.out], rfl, rfl⟩
  case round =>
    obtain ⟨k, hk, rfl, rfl, rfl⟩ := hrel
    have hsz := powT_size k
    have hnx := Lib.hid (powT_succ k)
    have hsz2 : (powT k).size ≤ 40 := by omega
    clear hsz
    by_cases hkn : k < n
    · have h1 : (k : Int) < (n : Int) := by omega
      go_wp2
      go_roundw
      case rel => exact ⟨k + 1, by omega, by rw [hnx.out], by go_num, trivial⟩
      case measure => simp [RowKit.intOf]; omega
    · have h1 : ¬ (k : Int) < (n : Int) := by omega
      obtain rfl : k = n := by omega
      go_wp2
      go_ret
      exact ⟨rfl, rfl⟩

/-- What grid returns. -/
def gridQ (n d : ByteArray) (p : Int) : ByteArray := if gridB n d p then textI (numB n * 10 ^ p.toNat / numB d) else ByteArray.empty
def gridRest (n d : ByteArray) (p : Int) : ByteArray := if gridB n d p then textI (numB n * 10 ^ p.toNat % numB d) else ByteArray.empty
def gridT (n d : ByteArray) (p : Int) : ByteArray := if gridB n d p then powT p.toNat else ByteArray.empty
theorem gridB_bad {n d : ByteArray} {p : Int} (h : validQ n d = false ∨ p < 0 ∨ 30 < p) : gridB n d p = false := by
  unfold gridB
  rcases h with h | h | h
  · rw [h]; rfl
  · rw [decide_eq_false (show ¬ (0 ≤ p) by omega), Bool.false_and, Bool.and_false]; rfl
  · rw [decide_eq_false (show ¬ (p ≤ 30) by omega), Bool.and_false, Bool.and_false]; rfl
theorem gridB_good {n d : ByteArray} {p : Int} (h : validQ n d = true) (h0 : 0 ≤ p) (h1 : p ≤ 30) : gridB n d p = fitB (numB n * 10 ^ p.toNat) := by
  unfold gridB
  rw [h, decide_eq_true h0, decide_eq_true h1]; rfl
set_option maxRecDepth 100000 in
set_option maxHeartbeats 8000000 in
theorem gridR4_any (n d : ByteArray) (hn : n.size ≤ 1099511627776) (hd : d.size ≤ 1099511627776) (p : Int) (hp1 : -9223372036854775808 ≤ p) (hp2 : p ≤ 9223372036854775807) (w : World) :
    Calls Tryz.prog 57 #[.agg #[.string n, .string d], .int .i64 p] w fun e w' => e = .returned (.tuple #[.string (gridQ n d p), .string (gridRest n d p), .string (gridT n d p), .bool (gridB n d p)]) ∧ Below w.heap.size w w' := by
  obtain ⟨W0, hW0, b0, hcc⟩ := box_one w n d
  have HW := Lib.hid hW0; have HC := Lib.hid hcc; have B0 := Lib.hid b0
  have P0 := Lib.hid (Below.refl W0.heap.size W0)
  clear hW0 hcc b0
  have va := fun W => validR4_any n d hn hd W
  cases hv : validQ n d with
  | false =>
    rw [hv] at va
    have hb := gridB_bad (p := p) (.inl hv)
    unfold gridQ gridRest gridT
    rw [hb]
    show Calls _ _ _ _ fun e w' => e = .returned (.tuple #[.string ⟨#[]⟩, .string ⟨#[]⟩, .string ⟨#[]⟩, .bool false]) ∧ _
    have VA := Lib.hid va
    clear va hv hb
    go_enter Tryz.func57, Tryz.ntmps57
    obtain ⟨ca0, cb0, cc0, cd0⟩ := HC.out _ (Below.refl _ _)
    go_wp2_with (rw [HW.out])
    refine (VA.out _).mono ?_
    rintro e w1 ⟨rfl, b1⟩
    have P1 := Lib.hid (below_up P0.out b1)
    obtain ⟨ca1, cb1, cc1, cd1⟩ := HC.out _ P1.out
    clear b1 P0 ca0 cb0 cc0 cd0 
    go_wp2_with fail
    exact bodyPost_ret (v := .tuple #[.string ⟨#[]⟩, .string ⟨#[]⟩, .string ⟨#[]⟩, .bool false]) (by simp [results, Tryz.results57, go_sem]) rfl ⟨rfl, below_up B0.out P1.out⟩
  | true =>
    rw [hv] at va
    by_cases h0 : p < 0
    · have hb := gridB_bad (n := n) (d := d) (.inr (.inl h0))
      unfold gridQ gridRest gridT
      rw [hb]
      show Calls _ _ _ _ fun e w' => e = .returned (.tuple #[.string ⟨#[]⟩, .string ⟨#[]⟩, .string ⟨#[]⟩, .bool false]) ∧ _
      have VA := Lib.hid va
      clear va hv hb
      go_enter Tryz.func57, Tryz.ntmps57
      obtain ⟨ca0, cb0, cc0, cd0⟩ := HC.out _ (Below.refl _ _)
      go_wp2_with (rw [HW.out])
      refine (VA.out _).mono ?_
      rintro e w1 ⟨rfl, b1⟩
      have P1 := Lib.hid (below_up P0.out b1)
      obtain ⟨ca1, cb1, cc1, cd1⟩ := HC.out _ P1.out
      clear b1 P0 ca0 cb0 cc0 cd0 
      go_wp2_with fail
      exact bodyPost_ret (v := .tuple #[.string ⟨#[]⟩, .string ⟨#[]⟩, .string ⟨#[]⟩, .bool false]) (by simp [results, Tryz.results57, go_sem]) rfl ⟨rfl, below_up B0.out P1.out⟩
    · by_cases h1 : 30 < p
      · have hb := gridB_bad (n := n) (d := d) (.inr (.inr h1))
        unfold gridQ gridRest gridT
        rw [hb]
        show Calls _ _ _ _ fun e w' => e = .returned (.tuple #[.string ⟨#[]⟩, .string ⟨#[]⟩, .string ⟨#[]⟩, .bool false]) ∧ _
        have VA := Lib.hid va
        clear va hv hb
        go_enter Tryz.func57, Tryz.ntmps57
        obtain ⟨ca0, cb0, cc0, cd0⟩ := HC.out _ (Below.refl _ _)
        go_wp2_with (rw [HW.out])
        refine (VA.out _).mono ?_
        rintro e w1 ⟨rfl, b1⟩
        have P1 := Lib.hid (below_up P0.out b1)
        obtain ⟨ca1, cb1, cc1, cd1⟩ := HC.out _ P1.out
        clear b1 P0 ca0 cb0 cc0 cd0 
        go_wp2_with fail
        exact bodyPost_ret (v := .tuple #[.string ⟨#[]⟩, .string ⟨#[]⟩, .string ⟨#[]⟩, .bool false]) (by simp [results, Tryz.results57, go_sem]) rfl ⟨rfl, below_up B0.out P1.out⟩
      · obtain ⟨k, rfl⟩ : ∃ k : Nat, p = (k : Int) := ⟨p.toNat, by omega⟩
        have hk : k ≤ 30 := by omega
        have hb := gridB_good (p := (k : Int)) hv (by omega) (by omega)
        obtain ⟨v1, v2, v3, _⟩ := validQ_parts hv
        have hpf := powT_fits (k := k) (by omega)
        have cp := fun W => power_any k hk W
        have cm := fun W => mulR_any n (powT k) hn (le_of_fits hpf) W
        rw [show powT k = textI ((10 : Int) ^ k) from rfl, (op_valid _ v1 (valid_text hpf).1).1, (op_valid _ v1 (valid_text hpf).1).2, (valid_text hpf).2, show textI ((10 : Int) ^ k) = powT k from rfl] at cm
        rw [Int.toNat_natCast] at hb
        cases hf : fitB (numB n * 10 ^ k) with
        | false =>
          rw [hf] at hb
          rw [(res_no hf).1, (res_no hf).2] at cm
          unfold gridQ gridRest gridT
          rw [hb]
          show Calls _ _ _ _ fun e w' => e = .returned (.tuple #[.string ⟨#[]⟩, .string ⟨#[]⟩, .string ⟨#[]⟩, .bool false]) ∧ _
          generalize powT k = T at *
          have VA := Lib.hid va; have CP := Lib.hid cp; have CM := Lib.hid cm
          clear va cp cm hv hb hf v1 v2 v3 hpf h0 h1
          go_enter Tryz.func57, Tryz.ntmps57
          obtain ⟨ca0, cb0, cc0, cd0⟩ := HC.out _ (Below.refl _ _)
          go_wp2_with (rw [HW.out])
          refine (VA.out _).mono ?_
          rintro e w1 ⟨rfl, b1⟩
          have P1 := Lib.hid (below_up P0.out b1)
          obtain ⟨ca1, cb1, cc1, cd1⟩ := HC.out _ P1.out
          clear b1 P0 ca0 cb0 cc0 cd0 
          go_wp2_with fail
          refine (CP.out _).mono ?_
          rintro e wp ⟨rfl, rfl⟩
          go_wp2_with fail
          refine (CM.out _).mono ?_
          rintro e w2 ⟨rfl, b2⟩
          have P2 := Lib.hid (below_up P1.out b2)
          obtain ⟨ca2, cb2, cc2, cd2⟩ := HC.out _ P2.out
          clear b2 P1 ca1 cb1 cc1 cd1 
          go_wp2_with fail
          exact bodyPost_ret (v := .tuple #[.string ⟨#[]⟩, .string ⟨#[]⟩, .string ⟨#[]⟩, .bool false]) (by simp [results, Tryz.results57, go_sem]) rfl ⟨rfl, below_up B0.out P2.out⟩
        | true =>
          rw [hf] at hb
          have hf' := (fitB_iff _).1 hf
          rw [(res_yes hf).1, (res_yes hf).2] at cm
          obtain ⟨q1, q2⟩ := div_texts hf' (text_valid v2).1 (by omega)
          have q3 := rem_text hf' (text_valid v2).1 (by omega)
          rw [← (text_valid v2).2] at q1 q2 q3
          have cd := fun W => divR_any (textI (numB n * 10 ^ k)) d (le_of_fits hf') hd W
          rw [q1, q2, q3] at cd
          unfold gridQ gridRest gridT
          rw [hb, if_pos rfl, if_pos rfl, if_pos rfl, Int.toNat_natCast]
          generalize textI (numB n * 10 ^ k / numB d) = Q at *
          generalize textI (numB n * 10 ^ k % numB d) = K at *
          generalize textI (numB n * 10 ^ k) = M at *
          generalize powT k = T at *
          have VA := Lib.hid va; have CP := Lib.hid cp; have CM := Lib.hid cm; have CD := Lib.hid cd
          clear va cp cm cd hv hb hf hf' v1 v2 v3 hpf h0 h1 q1 q2 q3 hn hd
          go_enter Tryz.func57, Tryz.ntmps57
          obtain ⟨ca0, cb0, cc0, cd0⟩ := HC.out _ (Below.refl _ _)
          go_wp2_with (rw [HW.out])
          refine (VA.out _).mono ?_
          rintro e w1 ⟨rfl, b1⟩
          have P1 := Lib.hid (below_up P0.out b1)
          obtain ⟨ca1, cb1, cc1, cd1⟩ := HC.out _ P1.out
          clear b1 P0 ca0 cb0 cc0 cd0 
          go_wp2_with fail
          refine (CP.out _).mono ?_
          rintro e wp ⟨rfl, rfl⟩
          go_wp2_with fail
          refine (CM.out _).mono ?_
          rintro e w2 ⟨rfl, b2⟩
          have P2 := Lib.hid (below_up P1.out b2)
          obtain ⟨ca2, cb2, cc2, cd2⟩ := HC.out _ P2.out
          clear b2 P1 ca1 cb1 cc1 cd1 
          go_wp2_with fail
          refine (CD.out _).mono ?_
          rintro e w3 ⟨rfl, b3⟩
          have P3 := Lib.hid (below_up P2.out b3)
          obtain ⟨ca3, cb3, cc3, cd3⟩ := HC.out _ P3.out
          clear b3 P2 ca2 cb2 cc2 cd2 
          go_wp2_with fail
          exact bodyPost_ret (v := .tuple #[.string Q, .string K, .string T, .bool true]) (by simp [results, Tryz.results57, go_sem]) rfl ⟨rfl, below_up B0.out P3.out⟩
theorem gridB_parts {n d : ByteArray} {p : Int} (h : gridB n d p = true) : validQ n d = true ∧ 0 ≤ p ∧ p ≤ 30 ∧ Fits (numB n * 10 ^ p.toNat) := by
  unfold gridB at h
  simp only [Bool.and_eq_true, decide_eq_true_eq] at h
  exact ⟨h.1.1, h.1.2.1, h.1.2.2, (fitB_iff _).1 h.2⟩
theorem upV_ceil (n d : ByteArray) (p : Int) : upV n d p = Rat.divInt (ceilI (numB n * 10 ^ p.toNat) (numB d)) (10 ^ p.toNat) := rfl
set_option maxRecDepth 100000 in
set_option maxHeartbeats 8000000 in
theorem downR4_any (n d : ByteArray) (hn : n.size ≤ 1099511627776) (hd : d.size ≤ 1099511627776) (p : Int) (hp1 : -9223372036854775808 ≤ p) (hp2 : p ≤ 9223372036854775807) (w : World) :
    Calls Tryz.prog 24 #[.agg #[.string n, .string d], .int .i64 p] w fun e w' => e = .returned (.tuple #[.agg #[.string (outN (gridB n d p) (downV n d p)), .string (outD (gridB n d p) (downV n d p))], .int .i64 (outE (gridB n d p))]) ∧ Below w.heap.size w w' := by
  obtain ⟨W0, hW0, b0, hcc⟩ := box_two w n d ⟨#[]⟩ ⟨#[]⟩
  have HW := Lib.hid hW0; have HC := Lib.hid hcc; have B0 := Lib.hid b0
  have P0 := Lib.hid (Below.refl W0.heap.size W0)
  clear hW0 hcc b0
  have cg := fun W => gridR4_any n d hn hd p hp1 hp2 W
  cases hb : gridB n d p with
  | false =>
    unfold gridQ gridRest gridT at cg
    rw [hb] at cg
    show Calls _ _ _ _ fun e w' => e = .returned (.tuple #[.agg #[.string ⟨#[]⟩, .string ⟨#[]⟩], .int .i64 40]) ∧ _
    have CG := Lib.hid (show ∀ W, Calls Tryz.prog 57 #[.agg #[.string n, .string d], .int .i64 p] W fun e w' => e = .returned (.tuple #[.string ⟨#[]⟩, .string ⟨#[]⟩, .string ⟨#[]⟩, .bool false]) ∧ Below W.heap.size W w' from cg)
    clear cg hb
    go_enter Tryz.func24, Tryz.ntmps24
    obtain ⟨⟨ca0, cb0, cc0, cd0⟩, ⟨ce0, cf0, cg0, ch0⟩⟩ := HC.out _ (Below.refl _ _)
    go_wp2_with (rw [HW.out])
    refine (CG.out _).mono ?_
    rintro e w1 ⟨rfl, b1⟩
    have P1 := Lib.hid (below_up P0.out b1)
    obtain ⟨⟨ca1, cb1, cc1, cd1⟩, ⟨ce1, cf1, cg1, ch1⟩⟩ := HC.out _ P1.out
    clear b1 P0 ca0 cb0 cc0 cd0 ce0 cf0 cg0 ch0 
    go_wp2_with fail
    exact bodyPost_ret (v := .tuple #[.agg #[.string ⟨#[]⟩, .string ⟨#[]⟩], .int .i64 40]) (by simp [results, Tryz.results24, go_sem, ce1, cf1]) rfl ⟨rfl, rat_done B0.out (by omega) P1.out _ _⟩
  | true =>
    obtain ⟨v0, g0, g1, hf⟩ := gridB_parts hb
    obtain ⟨k, rfl⟩ : ∃ k : Nat, p = (k : Int) := ⟨p.toNat, by omega⟩
    rw [Int.toNat_natCast] at hf
    obtain ⟨v1, v2, v3, _⟩ := validQ_parts v0
    have hpf := powT_fits (k := k) (by omega)
    have hp0 : (10 : Int) ^ k ≠ 0 := Int.pow_ne_zero (by decide)
    unfold gridQ gridRest gridT at cg
    rw [hb, if_pos rfl, if_pos rfl, if_pos rfl, Int.toNat_natCast] at cg
    have hq := quot_fit (y := numB d) hf
    have cm := fun W => makeR4_any (textI (numB n * 10 ^ k / numB d)) (powT k) (le_of_fits hq) (le_of_fits hpf) W
    rw [show powT k = textI ((10 : Int) ^ k) from rfl, (make_texts hq hpf hp0).1, (make_texts hq hpf hp0).2] at cm
    rw [show textI ((10 : Int) ^ k) = powT k from rfl] at cm
    rw [show Rat.divInt (numB n * 10 ^ k / numB d) (10 ^ k) = downV n d (k : Int) from rfl] at cm
    obtain ⟨XN, hXN⟩ : ∃ t, outN true (downV n d (k : Int)) = t := ⟨_, rfl⟩
    obtain ⟨XD, hXD⟩ : ∃ t, outD true (downV n d (k : Int)) = t := ⟨_, rfl⟩
    obtain ⟨XE, hXE⟩ : ∃ t, outE true = t := ⟨_, rfl⟩
    rw [hXN, hXD, hXE] at cm ⊢
    generalize textI (numB n * 10 ^ k / numB d) = Q at *
    generalize textI (numB n * 10 ^ k % numB d) = K at *
    generalize powT k = T at *
    have CG := Lib.hid cg; have CM := Lib.hid cm
    clear cg cm hb v0 g0 g1 hf v1 v2 v3 hpf hp0 hq hXN hXD hXE hn hd hp1 hp2
    go_enter Tryz.func24, Tryz.ntmps24
    obtain ⟨⟨ca0, cb0, cc0, cd0⟩, ⟨ce0, cf0, cg0, ch0⟩⟩ := HC.out _ (Below.refl _ _)
    go_wp2_with (rw [HW.out])
    refine (CG.out _).mono ?_
    rintro e w1 ⟨rfl, b1⟩
    have P1 := Lib.hid (below_up P0.out b1)
    obtain ⟨⟨ca1, cb1, cc1, cd1⟩, ⟨ce1, cf1, cg1, ch1⟩⟩ := HC.out _ P1.out
    clear b1 P0 ca0 cb0 cc0 cd0 ce0 cf0 cg0 ch0 
    go_wp2_with fail
    refine (CM.out _).mono ?_
    rintro e w2 ⟨rfl, b2⟩
    have P2 := Lib.hid (below_up P1.out b2)
    obtain ⟨⟨ca2, cb2, cc2, cd2⟩, ⟨ce2, cf2, cg2, ch2⟩⟩ := HC.out _ P2.out
    clear b2 P1 ca1 cb1 cc1 cd1 ce1 cf1 cg1 ch1 
    go_wp2_with fail
    exact bodyPost_ret (v := .tuple #[.agg #[.string XN, .string XD], .int .i64 XE]) (by simp [results, Tryz.results24, go_sem, ce2, cf2]) rfl ⟨rfl, rat_done B0.out (by omega) P2.out _ _⟩
set_option maxRecDepth 100000 in
set_option maxHeartbeats 8000000 in
theorem upR4_any (n d : ByteArray) (hn : n.size ≤ 1099511627776) (hd : d.size ≤ 1099511627776) (p : Int) (hp1 : -9223372036854775808 ≤ p) (hp2 : p ≤ 9223372036854775807) (w : World) :
    Calls Tryz.prog 26 #[.agg #[.string n, .string d], .int .i64 p] w fun e w' => e = .returned (.tuple #[.agg #[.string (outN (gridB n d p) (upV n d p)), .string (outD (gridB n d p) (upV n d p))], .int .i64 (outE (gridB n d p))]) ∧ Below w.heap.size w w' := by
  obtain ⟨W0, hW0, b0, hcc⟩ := box_two w n d ⟨#[]⟩ ⟨#[]⟩
  have HW := Lib.hid hW0; have HC := Lib.hid hcc; have B0 := Lib.hid b0
  have P0 := Lib.hid (Below.refl W0.heap.size W0)
  clear hW0 hcc b0
  have cg := fun W => gridR4_any n d hn hd p hp1 hp2 W
  cases hb : gridB n d p with
  | false =>
    unfold gridQ gridRest gridT at cg
    rw [hb] at cg
    show Calls _ _ _ _ fun e w' => e = .returned (.tuple #[.agg #[.string ⟨#[]⟩, .string ⟨#[]⟩], .int .i64 40]) ∧ _
    have CG := Lib.hid (show ∀ W, Calls Tryz.prog 57 #[.agg #[.string n, .string d], .int .i64 p] W fun e w' => e = .returned (.tuple #[.string ⟨#[]⟩, .string ⟨#[]⟩, .string ⟨#[]⟩, .bool false]) ∧ Below W.heap.size W w' from cg)
    clear cg hb
    go_enter Tryz.func26, Tryz.ntmps26
    obtain ⟨⟨ca0, cb0, cc0, cd0⟩, ⟨ce0, cf0, cg0, ch0⟩⟩ := HC.out _ (Below.refl _ _)
    go_wp2_with (rw [HW.out])
    refine (CG.out _).mono ?_
    rintro e w1 ⟨rfl, b1⟩
    have P1 := Lib.hid (below_up P0.out b1)
    obtain ⟨⟨ca1, cb1, cc1, cd1⟩, ⟨ce1, cf1, cg1, ch1⟩⟩ := HC.out _ P1.out
    clear b1 P0 ca0 cb0 cc0 cd0 ce0 cf0 cg0 ch0 
    go_wp2_with fail
    exact bodyPost_ret (v := .tuple #[.agg #[.string ⟨#[]⟩, .string ⟨#[]⟩], .int .i64 40]) (by simp [results, Tryz.results26, go_sem, ce1, cf1]) rfl ⟨rfl, rat_done B0.out (by omega) P1.out _ _⟩
  | true =>
    obtain ⟨v0, g0, g1, hf⟩ := gridB_parts hb
    obtain ⟨k, rfl⟩ : ∃ k : Nat, p = (k : Int) := ⟨p.toNat, by omega⟩
    rw [Int.toNat_natCast] at hf
    obtain ⟨v1, v2, v3, _⟩ := validQ_parts v0
    have hpf := powT_fits (k := k) (by omega)
    have hp0 : (10 : Int) ^ k ≠ 0 := Int.pow_ne_zero (by decide)
    unfold gridQ gridRest gridT at cg
    rw [hb, if_pos rfl, if_pos rfl, if_pos rfl, Int.toNat_natCast] at cg
    have hup := up_fits hf v3
    have h0 := text_is0' (numB n * 10 ^ k % numB d)
    have ca := fun W => addR_any (textI (numB n * 10 ^ k / numB d)) ⟨#[49]⟩ (le_of_fits (quot_fit hf)) (by decide) W
    have e1 : (⟨#[49]⟩ : ByteArray) = textI 1 := by decide +kernel
    by_cases hr : numB n * 10 ^ k % numB d = 0
    · rw [decide_eq_true hr] at h0
      have hx : ((textI (numB n * 10 ^ k % numB d)).toList != [48]) = false := by rw [bne, h0]; rfl
      have hq := quot_fit (y := numB d) hf
      have cm := fun W => makeR4_any (textI (numB n * 10 ^ k / numB d)) (powT k) (le_of_fits hq) (le_of_fits hpf) W
      rw [show powT k = textI ((10 : Int) ^ k) from rfl, (make_texts hq hpf hp0).1, (make_texts hq hpf hp0).2] at cm
      rw [show textI ((10 : Int) ^ k) = powT k from rfl] at cm
      rw [show Rat.divInt (numB n * 10 ^ k / numB d) (10 ^ k) = upV n d (k : Int) by rw [upV_ceil, Int.toNat_natCast]; unfold ceilI; rw [if_pos hr, Int.add_zero]] at cm
      obtain ⟨XN, hXN⟩ : ∃ t, outN true (upV n d (k : Int)) = t := ⟨_, rfl⟩
      obtain ⟨XD, hXD⟩ : ∃ t, outD true (upV n d (k : Int)) = t := ⟨_, rfl⟩
      obtain ⟨XE, hXE⟩ : ∃ t, outE true = t := ⟨_, rfl⟩
      rw [hXN, hXD, hXE] at cm ⊢
      generalize textI (numB n * 10 ^ k / numB d) = Q at *
      generalize textI (numB n * 10 ^ k % numB d) = K at *
      generalize powT k = T at *
      have CG := Lib.hid cg; have CM := Lib.hid cm
      clear cg cm ca e1 hb v0 g0 g1 hf v1 v2 v3 hpf hp0 hq hXN hXD hXE hn hd hp1 hp2 hr hx hup
      go_enter Tryz.func26, Tryz.ntmps26
      obtain ⟨⟨ca0, cb0, cc0, cd0⟩, ⟨ce0, cf0, cg0, ch0⟩⟩ := HC.out _ (Below.refl _ _)
      go_wp2_with (rw [HW.out])
      refine (CG.out _).mono ?_
      rintro e w1 ⟨rfl, b1⟩
      have P1 := Lib.hid (below_up P0.out b1)
      obtain ⟨⟨ca1, cb1, cc1, cd1⟩, ⟨ce1, cf1, cg1, ch1⟩⟩ := HC.out _ P1.out
      clear b1 P0 ca0 cb0 cc0 cd0 ce0 cf0 cg0 ch0 
      go_wp2_with fail
      refine (CM.out _).mono ?_
      rintro e w2 ⟨rfl, b2⟩
      have P2 := Lib.hid (below_up P1.out b2)
      obtain ⟨⟨ca2, cb2, cc2, cd2⟩, ⟨ce2, cf2, cg2, ch2⟩⟩ := HC.out _ P2.out
      clear b2 P1 ca1 cb1 cc1 cd1 ce1 cf1 cg1 ch1 
      go_wp2_with fail
      exact bodyPost_ret (v := .tuple #[.agg #[.string XN, .string XD], .int .i64 XE]) (by simp [results, Tryz.results26, go_sem, ce2, cf2]) rfl ⟨rfl, rat_done B0.out (by omega) P2.out _ _⟩
    · rw [decide_eq_false hr] at h0
      have hx : ((textI (numB n * 10 ^ k % numB d)).toList != [48]) = true := by rw [bne, h0]; rfl
      have hq : Fits (numB n * 10 ^ k / numB d + 1) := by have := hup; unfold ceilI at this; rw [if_neg hr] at this; exact this
      rw [e1, (op_texts _ (quot_fit hf) one_fits).1, (op_texts _ (quot_fit hf) one_fits).2, (res_yes ((fitB_iff _).2 hq)).1, (res_yes ((fitB_iff _).2 hq)).2, ← e1] at ca
      have cm := fun W => makeR4_any (textI (numB n * 10 ^ k / numB d + 1)) (powT k) (le_of_fits hq) (le_of_fits hpf) W
      rw [show powT k = textI ((10 : Int) ^ k) from rfl, (make_texts hq hpf hp0).1, (make_texts hq hpf hp0).2] at cm
      rw [show textI ((10 : Int) ^ k) = powT k from rfl] at cm
      rw [show Rat.divInt (numB n * 10 ^ k / numB d + 1) (10 ^ k) = upV n d (k : Int) by rw [upV_ceil, Int.toNat_natCast]; unfold ceilI; rw [if_neg hr]] at cm
      obtain ⟨XN, hXN⟩ : ∃ t, outN true (upV n d (k : Int)) = t := ⟨_, rfl⟩
      obtain ⟨XD, hXD⟩ : ∃ t, outD true (upV n d (k : Int)) = t := ⟨_, rfl⟩
      obtain ⟨XE, hXE⟩ : ∃ t, outE true = t := ⟨_, rfl⟩
      rw [hXN, hXD, hXE] at cm ⊢
      generalize textI (numB n * 10 ^ k / numB d + 1) = Q2 at *
      generalize textI (numB n * 10 ^ k / numB d) = Q at *
      generalize textI (numB n * 10 ^ k % numB d) = K at *
      generalize powT k = T at *
      have CG := Lib.hid cg; have CM := Lib.hid cm; have CA := Lib.hid ca
      clear cg cm ca e1 hb v0 g0 g1 hf v1 v2 v3 hpf hp0 hq hXN hXD hXE hn hd hp1 hp2 hr hx hup
      go_enter Tryz.func26, Tryz.ntmps26
      obtain ⟨⟨ca0, cb0, cc0, cd0⟩, ⟨ce0, cf0, cg0, ch0⟩⟩ := HC.out _ (Below.refl _ _)
      go_wp2_with (rw [HW.out])
      refine (CG.out _).mono ?_
      rintro e w1 ⟨rfl, b1⟩
      have P1 := Lib.hid (below_up P0.out b1)
      obtain ⟨⟨ca1, cb1, cc1, cd1⟩, ⟨ce1, cf1, cg1, ch1⟩⟩ := HC.out _ P1.out
      clear b1 P0 ca0 cb0 cc0 cd0 ce0 cf0 cg0 ch0 
      go_wp2_with fail
      refine (CA.out _).mono ?_
      rintro e w2 ⟨rfl, b2⟩
      have P2 := Lib.hid (below_up P1.out b2)
      obtain ⟨⟨ca2, cb2, cc2, cd2⟩, ⟨ce2, cf2, cg2, ch2⟩⟩ := HC.out _ P2.out
      clear b2 P1 ca1 cb1 cc1 cd1 ce1 cf1 cg1 ch1 
      go_wp2_with fail
      refine (CM.out _).mono ?_
      rintro e w3 ⟨rfl, b3⟩
      have P3 := Lib.hid (below_up P2.out b3)
      obtain ⟨⟨ca3, cb3, cc3, cd3⟩, ⟨ce3, cf3, cg3, ch3⟩⟩ := HC.out _ P3.out
      clear b3 P2 ca2 cb2 cc2 cd2 ce2 cf2 cg2 ch2 
      go_wp2_with fail
      exact bodyPost_ret (v := .tuple #[.agg #[.string XN, .string XD], .int .i64 XE]) (by simp [results, Tryz.results26, go_sem, ce3, cf3]) rfl ⟨rfl, rat_done B0.out (by omega) P3.out _ _⟩
theorem len_le {n : ByteArray} (h : validB n = true) : n.size ≤ 1000 := by
  have := fits_size (text_valid h).1
  rw [← (text_valid h).2] at this
  exact this
set_option maxRecDepth 100000 in
set_option maxHeartbeats 8000000 in
theorem printR4_any (n d : ByteArray) (hn : n.size ≤ 1099511627776) (hd : d.size ≤ 1099511627776) (w : World) :
    Calls Tryz.prog 35 #[.agg #[.string n, .string d]] w fun e w' => e = .returned (.string (printB n d)) ∧ Below w.heap.size w w' := by
  obtain ⟨W0, hW0, b0, hcc⟩ := box_one w n d
  have HW := Lib.hid hW0; have HC := Lib.hid hcc; have B0 := Lib.hid b0
  have P0 := Lib.hid (Below.refl W0.heap.size W0)
  clear hW0 hcc b0
  have va := fun W => validR4_any n d hn hd W
  unfold printB
  have h1 : (d.toList == (⟨#[49]⟩ : ByteArray).toList) = decide (d = ⟨#[49]⟩) := by rw [str_eq_iff]
  rw [list49] at h1
  cases hv : validQ n d with
  | false =>
    rw [hv] at va
    rw [if_neg (by decide)]
    have VA := Lib.hid va
    clear va hv h1
    go_enter Tryz.func35, Tryz.ntmps35
    obtain ⟨ca0, cb0, cc0, cd0⟩ := HC.out _ (Below.refl _ _)
    go_wp2_with (rw [HW.out])
    refine (VA.out _).mono ?_
    rintro e w1 ⟨rfl, b1⟩
    have P1 := Lib.hid (below_up P0.out b1)
    obtain ⟨ca1, cb1, cc1, cd1⟩ := HC.out _ P1.out
    clear b1 P0 ca0 cb0 cc0 cd0 
    go_wp2
    go_ret
    exact ⟨rfl, below_up B0.out P1.out⟩
  | true =>
    rw [hv] at va
    rw [if_pos rfl]
    obtain ⟨v1, v2, _, _⟩ := validQ_parts hv
    have l1 := len_le v1
    have l2 := len_le v2
    have VA := Lib.hid va
    clear va hv v1 v2 hn hd
    by_cases hd1 : d = ⟨#[49]⟩
    · rw [decide_eq_true hd1] at h1
      rw [if_pos hd1]
      clear hd1
      go_enter Tryz.func35, Tryz.ntmps35
      obtain ⟨ca0, cb0, cc0, cd0⟩ := HC.out _ (Below.refl _ _)
      go_wp2_with (rw [HW.out])
      refine (VA.out _).mono ?_
      rintro e w1 ⟨rfl, b1⟩
      have P1 := Lib.hid (below_up P0.out b1)
      obtain ⟨ca1, cb1, cc1, cd1⟩ := HC.out _ P1.out
      clear b1 P0 ca0 cb0 cc0 cd0 
      go_wp2
      go_ret
      exact ⟨rfl, below_up B0.out P1.out⟩
    · rw [decide_eq_false hd1] at h1
      rw [if_neg hd1]
      clear hd1
      go_enter Tryz.func35, Tryz.ntmps35
      obtain ⟨ca0, cb0, cc0, cd0⟩ := HC.out _ (Below.refl _ _)
      go_wp2_with (rw [HW.out])
      refine (VA.out _).mono ?_
      rintro e w1 ⟨rfl, b1⟩
      have P1 := Lib.hid (below_up P0.out b1)
      obtain ⟨ca1, cb1, cc1, cd1⟩ := HC.out _ P1.out
      clear b1 P0 ca0 cb0 cc0 cd0 
      go_wp2
      go_ret
      exact ⟨rfl, below_up B0.out P1.out⟩
end Go.Proofs.YtlcibnmcannapaaGreatDoor
