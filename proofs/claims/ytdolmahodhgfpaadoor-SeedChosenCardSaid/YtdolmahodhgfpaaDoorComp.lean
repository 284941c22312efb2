/-
  The contract of digest.compress: what the eight words become with a block.
-/
import Derived.Test.YtdolmahodhgfpaaDoorSched
namespace Go.Proofs.YtdolmahodhgfpaaDoor
open Go Go.Proofs Go.RowKit Go.Lib

/-- The program's table of round words. -/
def HasK (w : World) : Prop := ∀ i, i < 64 → w.cell? ⟨0, i, none⟩ = some (.int .u32 ((shaK.getD i 0 : Nat) : Int))
theorem HasK.below {w w' : World} {n : Nat} (h : HasK w) (hb : Below n w w') (hn : 0 < n) : HasK w' :=
  fun i hi => (hb.cell (p := ⟨0, i, none⟩) hn).trans (h i hi)
theorem shaK_lt : ∀ x ∈ shaK, x < 4294967296 := by decide
theorem rnd_lt {k w : Nat} {l : List Nat} (h : ∀ x ∈ l, x < 4294967296) : ∀ x ∈ rnd k w l, x < 4294967296 := by
  unfold rnd
  split
  · rename_i a b c d e f g h'
    intro x hx
    simp only [List.mem_cons, List.not_mem_nil, or_false] at hx
    rcases hx with rfl | rfl | rfl | rfl | rfl | rfl | rfl | rfl
    · exact add32_lt _ _
    · exact h _ (by simp)
    · exact h _ (by simp)
    · exact h _ (by simp)
    · exact add32_lt _ _
    · exact h _ (by simp)
    · exact h _ (by simp)
    · exact h _ (by simp)
  · exact h
theorem rnds_lt (W : List Nat) {s : List Nat} (h : ∀ x ∈ s, x < 4294967296) : ∀ n, ∀ x ∈ rnds W s n, x < 4294967296
  | 0 => h
  | n + 1 => rnd_lt (rnds_lt W h n)
theorem eight {l : List Nat} (h : l.length = 8) : ∃ a b c d e f g i, l = [a, b, c, d, e, f, g, i] := by
  match l, h with
  | [a, b, c, d, e, f, g, i], _ => exact ⟨a, b, c, d, e, f, g, i, rfl⟩
theorem addL_get : ∀ (s t : List Nat) (i : Nat), s.length = t.length → i < s.length → (addL s t).getD i 0 = add32 (s.getD i 0) (t.getD i 0)
  | a :: s, b :: t, 0, _, _ => by simp [addL]
  | a :: s, b :: t, i + 1, h, hi => by
    have := addL_get s t i (by simpa using h) (by simpa using hi)
    simpa [addL] using this
theorem addL_lt : ∀ (s t : List Nat), ∀ x ∈ addL s t, x < 4294967296
  | a :: s, b :: t, x, h => by
    simp only [addL, List.mem_cons] at h
    rcases h with rfl | h
    · exact add32_lt _ _
    · exact addL_lt s t x h
  | [], _, x, h => by simp [addL] at h
  | _ :: _, [], x, h => by simp [addL] at h
theorem comp_lt (s b : List Nat) : ∀ x ∈ comp s b, x < 4294967296 := addL_lt _ _
theorem addTo_step (s t : List Nat) (h : s.length = t.length) (k : Nat) (hk : k < s.length) :
    ((addL s t).take k ++ s.drop k).set k (add32 (s.getD k 0) (t.getD k 0)) = (addL s t).take (k + 1) ++ s.drop (k + 1) := by
  have hl := addL_length s t h
  have e1 : s.drop k = s[k] :: s.drop (k + 1) := List.drop_eq_getElem_cons hk
  have hlt : ((addL s t).take k).length = k := by simp; omega
  rw [List.set_append_right _ _ (by omega), hlt, Nat.sub_self, e1, List.set_cons_zero, List.take_succ_eq_append_getElem (by omega), List.append_assoc]
  have : (addL s t)[k]'(by omega) = add32 (s.getD k 0) (t.getD k 0) := by
    rw [← addL_get s t k h hk]; simp [List.getD_eq_getElem?_getD, hl, hk]
  rw [this]; rfl
theorem addTo_get (s t : List Nat) (h : s.length = t.length) (k : Nat) (hk : k < s.length) : ((addL s t).take k ++ s.drop k).getD k 0 = s.getD k 0 := by
  have hl := addL_length s t h
  have hlt : ((addL s t).take k).length = k := by simp; omega
  rw [List.getD_eq_getElem?_getD, List.getElem?_append_right (by omega), hlt]
  simp [List.getD_eq_getElem?_getD]
theorem addTo_length (s t : List Nat) (h : s.length = t.length) (k : Nat) (hk : k ≤ s.length) : ((addL s t).take k ++ s.drop k).length = s.length := by
  have hl := addL_length s t h
  simp [hl]; omega

/-- The world with the three blocks. -/
noncomputable def cmpW (w : World) (s b : List Nat) : World :=
  ((w.alloc (.cells (u32s s) 75)).alloc (.cells (u8s b) 79)).alloc (.cells (u32s (List.replicate 8 0)) 75)
theorem cmpW_size (w : World) (s b : List Nat) : (cmpW w s b).heap.size = w.heap.size + 3 := by simp [cmpW]
theorem cmpW_0 (w : World) (s b : List Nat) : Is32 (cmpW w s b) w.heap.size 75 s := by
  unfold Is32 cmpW
  exact (Below.heap_alloc _ _ _ (by simp; omega)).trans ((Below.heap_alloc _ _ _ (by simp)).trans (heap_alloc_new w _))
theorem cmpW_1 (w : World) (s b : List Nat) : Is8 (cmpW w s b) (w.heap.size + 1) 79 b := by
  unfold Is8 cmpW
  refine (Below.heap_alloc _ _ _ (by simp)).trans ?_
  have := heap_alloc_new (w.alloc (.cells (u32s s) 75)) (.cells (u8s b) 79)
  rwa [World.size_alloc] at this
theorem cmpW_2 (w : World) (s b : List Nat) : Is32 (cmpW w s b) (w.heap.size + 1 + 1) 75 (List.replicate 8 0) := by
  unfold Is32 cmpW
  have := heap_alloc_new ((w.alloc (.cells (u32s s) 75)).alloc (.cells (u8s b) 79)) (.cells (u32s (List.replicate 8 0)) 75)
  rwa [World.size_alloc, World.size_alloc] at this
theorem cmpW_below (w : World) (s b : List Nat) : Below w.heap.size w (cmpW w s b) := by
  unfold cmpW
  exact (((Below.refl _ _).alloc (Nat.le_refl _) _).alloc (by simp) _).alloc (by simp; omega) _

/-- .. and a block for the schedule. -/
noncomputable def cmpW2 (w : World) (l : List Nat) : World := (w.alloc (.cells (u32s (List.replicate 64 0)) 85)).setRow w.heap.size (u32s l)
theorem cmpW2_new (w : World) (l : List Nat) : Is32 (cmpW2 w l) w.heap.size 85 l := setRow_heap _ _ _ _ _ _ (heap_alloc_new w _)
theorem cmpW2_old (w : World) (l : List Nat) (k : Nat) (hk : k < w.heap.size) : (cmpW2 w l).heap[k]? = w.heap[k]? :=
  (setRow_other _ _ _ _ (by omega)).trans (Below.heap_alloc _ _ _ hk)
theorem cmpW2_below {n : Nat} {w0 w : World} (h : Below n w0 w) (l : List Nat) (hn : n ≤ w.heap.size) : Below n w0 (cmpW2 w l) := below_setRow (h.alloc hn _) hn _
theorem cmpW2_size (w : World) (l : List Nat) : (cmpW2 w l).heap.size = w.heap.size + 1 := by simp [cmpW2]
theorem HasK.same {w w' : World} (h : HasK w) (hh : w'.heap[(0 : Nat)]? = w.heap[(0 : Nat)]?) : HasK w' := by
  intro i hi
  rw [← h i hi]
  unfold World.cell?; simp only [hh]

set_option maxRecDepth 100000 in
set_option maxHeartbeats 4000000 in
theorem compress_any (s b : List Nat) (hsl : s.length = 8) (hS : ∀ x ∈ s, x < 4294967296) (hb : b.length = 64) (hB : ∀ x ∈ b, x < 256) (w : World) (hK : HasK w) (hG : 0 < w.heap.size) :
    Calls Tryd.prog 54 #[.agg (u32s s), .agg (u8s b)] w fun e w' => e = .returned (.agg (u32s (comp s b))) ∧ Below w.heap.size w w' := by
  have hi64 : (Tryd.prog.info? 79).map (·.size) = some (u8s b).size := by rw [u8s_size, hb]; kernel_rfl
  have hi72 : (Tryd.prog.info? 85).map (·.size) = some (u32s (sched b 48)).size := by rw [u32s_size, sched_length]; kernel_rfl
  go_enter Tryd.func54, Tryd.ntmps54
  go_upto_region 1 with fail
  change Code.wp _ _ _ _ (cmpW w s b)
  have hs := cmpW_size w s b
  have h0 := cmpW_0 w s b
  have h1 := cmpW_1 w s b
  have h2 := cmpW_2 w s b
  have hbw := cmpW_below w s b
  obtain ⟨W3, hW3⟩ : ∃ W, cmpW w s b = W := ⟨_, rfl⟩
  rw [hW3] at hs h0 h1 h2 hbw ⊢
  have hK3 := hK.below hbw hG
  obtain ⟨B, hBn⟩ : ∃ n, w.heap.size = n := ⟨_, rfl⟩
  rw [hBn] at hs h0 h1 h2 hbw hG ⊢
  have HS := Lib.hid hs; have H0 := Lib.hid h0; have H1 := Lib.hid h1; have H2 := Lib.hid h2; have HBW := Lib.hid hbw; have HI := Lib.hid hi64; have HJ := Lib.hid hi72; have HN := Lib.hid hb; have HBn := Lib.hid hBn; have HSL := Lib.hid hsl; have HK3 := Lib.hid hK3; have HG := Lib.hid hG
  clear hW3 hs h0 h1 h2 hbw hi64 hi72 hb hBn hsl hK hK3 hG
  go_wp2_with (refine wpList_load_row rfl 79 (.tmp 3) rfl (B + 1) rfl 79 (u8s b) (0, 0) _ H1.out Tryd.underlying79 rfl HI.out ?_)
  refine (schedule_any b HN.out hB _).mono ?_
  rintro e W4 ⟨rfl, hb4⟩
  have g0 := H0.out.below hb4 (by have := HS.out; omega)
  have g2 := H2.out.below hb4 (by have := HS.out; omega)
  have gK := HK3.out.below hb4 (by have := HS.out; have := HG.out; omega)
  have gB : Below B w W4 := by have h := HBW.out; exact h.trans (hb4.mono (by have := HS.out; omega))
  have gS := hb4.size
  rw [HS.out] at gS
  obtain ⟨S, hSd⟩ : ∃ S, W4.heap.size = S := ⟨_, rfl⟩
  rw [hSd] at gS
  have H0 := Lib.hid g0; have H2 := Lib.hid g2; have HK4 := Lib.hid gK; have HB4 := Lib.hid gB; have HSd := Lib.hid hSd
  clear g0 g2 gK gB hSd hb4
  go_wp2_with (refine wpList_store_row rfl 85 (.tmp 5) (.tmp 20) rfl W4.heap.size (u32s (sched b 48)) rfl rfl 85 _ (heap_alloc_new W4 _) HJ.out (by rw [u32s_size, sched_length]; rfl) (u32s_one _) ?_)
  change Code.wp _ _ _ _ (cmpW2 W4 (sched b 48))
  have g0 : Is32 (cmpW2 W4 (sched b 48)) B 75 s := (cmpW2_old W4 _ B (by rw [HSd.out]; omega)).trans H0.out
  have g2 : Is32 (cmpW2 W4 (sched b 48)) (B + 1 + 1) 75 (List.replicate 8 0) := (cmpW2_old W4 _ _ (by rw [HSd.out]; omega)).trans H2.out
  have gK : HasK (cmpW2 W4 (sched b 48)) := HK4.out.same (cmpW2_old W4 _ _ (by rw [HSd.out]; have := HG.out; omega))
  have gB := cmpW2_below HB4.out (sched b 48) (by rw [HSd.out]; omega)
  have gn := cmpW2_new W4 (sched b 48)
  obtain ⟨W5, hW5⟩ : ∃ W, cmpW2 W4 (sched b 48) = W := ⟨_, rfl⟩
  rw [hW5] at g0 g2 gK gB gn ⊢
  rw [HSd.out] at gn ⊢
  obtain ⟨a0, b0, c0, d0, e0, f0, g0', i0, hse⟩ := eight HSL.out
  have c0' := g0.cell 0 (by rw [hse]; simp)
  have c1' := g0.cell 1 (by rw [hse]; simp)
  have c2' := g0.cell 2 (by rw [hse]; simp)
  have c3' := g0.cell 3 (by rw [hse]; simp)
  have c4' := g0.cell 4 (by rw [hse]; simp)
  have c5' := g0.cell 5 (by rw [hse]; simp)
  have c6' := g0.cell 6 (by rw [hse]; simp)
  have c7' := g0.cell 7 (by rw [hse]; simp)
  have H0 := Lib.hid g0; have H2 := Lib.hid g2; have HK := Lib.hid gK; have HB := Lib.hid gB; have HNW := Lib.hid gn
  clear g0 g2 gK gB gn hW5
  rw [hse] at c0' c1' c2' c3' c4' c5' c6' c7'
  simp only [List.getD_cons_zero, List.getD_cons_succ] at c0' c1' c2' c3' c4' c5' c6' c7'
  have hlt0 := rnds_lt (sched b 48) hS 0
  have HSE := Lib.hid hse
  clear hse
  go_simp
  go_quiet (fail)
  go_wp2_with fail
  go_loopw [6, 7, 8, 9, 10, 11, 12, 13, 37] (fun va vb vc vd ve vf vg vh i wr => ∃ (k x0 x1 x2 x3 x4 x5 x6 x7 m : Nat), k ≤ 64 ∧ i = .int .i64 k ∧ va = .int .u32 (x0 : Nat) ∧ vb = .int .u32 (x1 : Nat) ∧ vc = .int .u32 (x2 : Nat) ∧ vd = .int .u32 (x3 : Nat) ∧ ve = .int .u32 (x4 : Nat) ∧ vf = .int .u32 (x5 : Nat) ∧ vg = .int .u32 (x6 : Nat) ∧ vh = .int .u32 (x7 : Nat) ∧ rnds (sched b 48) s k = [x0, x1, x2, x3, x4, x5, x6, x7] ∧ wr = W5.drewN m)
    (fun _ _ _ _ _ _ _ _ i _ => 64 - (RowKit.intOf i).toNat)
  case atStart => exact ⟨0, a0, b0, c0, d0, e0, f0, g0', i0, nq, by omega, rfl, rfl, rfl, rfl, rfl, rfl, rfl, rfl, rfl, HSE.out, rfl⟩
  case round =>
    obtain ⟨k, a, b1, c, d, e, f, g, h, m, hk, rfl, rfl, rfl, rfl, rfl, rfl, rfl, rfl, rfl, hr, rfl⟩ := hrel
    by_cases hlt : k < 64
    · have hlt2 : (k : Int) < 64 := by omega
      have hall := rnds_lt (sched b 48) hS k
      rw [hr] at hall
      have la := hall a (by simp); have lb := hall b1 (by simp); have lc := hall c (by simp); have ld := hall d (by simp)
      have le := hall e (by simp); have lf := hall f (by simp); have lg := hall g (by simp); have lh := hall h (by simp)
      have hnext : rnds (sched b 48) s (k + 1) = [add32 (shaT e f g h (shaK.getD k 0) ((sched b 48).getD k 0)) (shaU a b1 c), a, b1, c, add32 d (shaT e f g h (shaK.getD k 0) ((sched b 48).getD k 0)), e, f, g] := by
        rw [rnds, hr]; rfl
      have hkc := HK.out k hlt
      have hwc := HNW.out.cell k (by rw [sched_length]; omega)
      have lk := getD_word shaK_lt k
      have lw := getD_word (sched_lt hB 48) k
      have hT : shaT e f g h (shaK.getD k 0) ((sched b 48).getD k 0) = add32 (add32 (add32 (add32 h ((rotr e 6 ^^^ rotr e 11) ^^^ rotr e 25)) ((e &&& f) ^^^ ((4294967295 - e) &&& g))) (shaK.getD k 0)) ((sched b 48).getD k 0) := rfl
      have hU : shaU a b1 c = add32 ((rotr a 2 ^^^ rotr a 13) ^^^ rotr a 22) (((a &&& b1) ^^^ (a &&& c)) ^^^ (b1 &&& c)) := rfl
      obtain ⟨kk, ekk⟩ : ∃ x, shaK.getD k 0 = x := ⟨_, rfl⟩
      obtain ⟨ww, eww⟩ : ∃ x, (sched b 48).getD k 0 = x := ⟨_, rfl⟩
      rw [ekk] at hkc lk
      rw [eww] at hwc lw
      rw [ekk, eww] at hT hnext
      obtain ⟨T, eT⟩ : ∃ x, shaT e f g h kk ww = x := ⟨_, rfl⟩
      obtain ⟨U, eU⟩ : ∃ x, shaU a b1 c = x := ⟨_, rfl⟩
      rw [eT] at hT hnext
      rw [eU] at hU hnext
      have k6 := fun W => right_lit e 6 6 rfl le (by decide) (by decide) W
      have k11 := fun W => right_lit e 11 11 rfl le (by decide) (by decide) W
      have k25 := fun W => right_lit e 25 25 rfl le (by decide) (by decide) W
      have k2 := fun W => right_lit a 2 2 rfl la (by decide) (by decide) W
      have k13 := fun W => right_lit a 13 13 rfl la (by decide) (by decide) W
      have k22 := fun W => right_lit a 22 22 rfl la (by decide) (by decide) W
      have l6 := rotr_lt (n := 6) le
      have l11 := rotr_lt (n := 11) le
      have l25 := rotr_lt (n := 25) le
      have l2 := rotr_lt (n := 2) la
      have l13 := rotr_lt (n := 13) la
      have l22 := rotr_lt (n := 22) la
      obtain ⟨r6, e6⟩ : ∃ x, rotr e 6 = x := ⟨_, rfl⟩
      obtain ⟨r11, e11⟩ : ∃ x, rotr e 11 = x := ⟨_, rfl⟩
      obtain ⟨r25, e25⟩ : ∃ x, rotr e 25 = x := ⟨_, rfl⟩
      obtain ⟨r2, e2⟩ : ∃ x, rotr a 2 = x := ⟨_, rfl⟩
      obtain ⟨r13, e13⟩ : ∃ x, rotr a 13 = x := ⟨_, rfl⟩
      obtain ⟨r22, e22⟩ : ∃ x, rotr a 22 = x := ⟨_, rfl⟩
      rw [e6] at k6 l6 hT; rw [e11] at k11 l11 hT; rw [e25] at k25 l25 hT
      rw [e2] at k2 l2 hU; rw [e13] at k13 l13 hU; rw [e22] at k22 l22 hU
      -- the sums of the first word
      have x1 := xor32 l6 l11
      have m1 := xor_lt32 l6 l11
      obtain ⟨p1, ep1⟩ : ∃ x, r6 ^^^ r11 = x := ⟨_, rfl⟩
      rw [ep1] at x1 m1 hT
      have x2 := xor32 m1 l25
      have m2 := xor_lt32 m1 l25
      obtain ⟨p2, ep2⟩ : ∃ x, p1 ^^^ r25 = x := ⟨_, rfl⟩
      rw [ep2] at x2 m2 hT
      have x4 := and32 le lf
      have m4 := and_lt32 f le
      obtain ⟨p4, ep4⟩ : ∃ x, e &&& f = x := ⟨_, rfl⟩
      rw [ep4] at x4 m4 hT
      have x5 := not32 le
      have m5 : 4294967295 - e < 4294967296 := by omega
      obtain ⟨p5, ep5⟩ : ∃ x, 4294967295 - e = x := ⟨_, rfl⟩
      rw [ep5] at x5 m5 hT
      have x6 := and32 m5 lg
      have m6 := and_lt32 g m5
      obtain ⟨p6, ep6⟩ : ∃ x, p5 &&& g = x := ⟨_, rfl⟩
      rw [ep6] at x6 m6 hT
      have x7 := xor32 m4 m6
      obtain ⟨p7, ep7⟩ : ∃ x, p4 ^^^ p6 = x := ⟨_, rfl⟩
      rw [ep7] at x7 hT
      -- the sums of the second word
      have y1 := xor32 l2 l13
      have n1 := xor_lt32 l2 l13
      obtain ⟨q1, eq1⟩ : ∃ x, r2 ^^^ r13 = x := ⟨_, rfl⟩
      rw [eq1] at y1 n1 hU
      have y2 := xor32 n1 l22
      obtain ⟨q2, eq2⟩ : ∃ x, q1 ^^^ r22 = x := ⟨_, rfl⟩
      rw [eq2] at y2 hU
      have y3 := and32 la lb
      have n3 := and_lt32 b1 la
      obtain ⟨q3, eq3⟩ : ∃ x, a &&& b1 = x := ⟨_, rfl⟩
      rw [eq3] at y3 n3 hU
      have y4 := and32 la lc
      have n4 := and_lt32 c la
      obtain ⟨q4, eq4⟩ : ∃ x, a &&& c = x := ⟨_, rfl⟩
      rw [eq4] at y4 n4 hU
      have y5 := xor32 n3 n4
      have n5 := xor_lt32 n3 n4
      obtain ⟨q5, eq5⟩ : ∃ x, q3 ^^^ q4 = x := ⟨_, rfl⟩
      rw [eq5] at y5 n5 hU
      have y6 := and32 lb lc
      have n6 := and_lt32 c lb
      obtain ⟨q6, eq6⟩ : ∃ x, b1 &&& c = x := ⟨_, rfl⟩
      rw [eq6] at y6 n6 hU
      have y7 := xor32 n5 n6
      obtain ⟨q7, eq7⟩ : ∃ x, q5 ^^^ q6 = x := ⟨_, rfl⟩
      rw [eq7] at y7 hU
      obtain ⟨dT, edT⟩ : ∃ x, add32 d T = x := ⟨_, rfl⟩
      obtain ⟨tU, etU⟩ : ∃ x, add32 T U = x := ⟨_, rfl⟩
      rw [edT, etU] at hnext
      have HX := Lib.hid hnext; have HT := Lib.hid hT; have HU := Lib.hid hU; have HDT := Lib.hid edT; have HTU := Lib.hid etU; have K6 := Lib.hid k6; have K11 := Lib.hid k11; have K25 := Lib.hid k25; have K2 := Lib.hid k2; have K13 := Lib.hid k13; have K22 := Lib.hid k22
      clear hr hall hnext hT hU ekk eww eT eU e6 e11 e25 e2 e13 e22 k6 k11 k25 k2 k13 k22 ep1 ep2 ep4 ep5 ep6 ep7 eq1 eq2 eq3 eq4 eq5 eq6 eq7 edT etU c0' c1' c2' c3' c4' c5' c6' c7' hlt0
      go_wp2_with fail
      go_quiet ((first | (go_at_call 59; exact q_add K6.out) | (go_at_call 59; exact q_add K11.out) | (go_at_call 59; exact q_add K25.out)))
      go_wp2_with fail
      refine (K2.out _).mono ?_
      rintro en w' ⟨rfl, rfl⟩
      go_wp2_with fail
      refine (K13.out _).mono ?_
      rintro en w' ⟨rfl, rfl⟩
      go_wp2_with fail
      refine (K22.out _).mono ?_
      rintro en w' ⟨rfl, rfl⟩
      go_wp2
      go_roundw
      case rel => exact ⟨k + 1, tU, a, b1, c, dT, e, f, g, _, by omega, by go_num, congrArg (Value.int .u32) (by have h1 := HT.out; have h2 := HU.out; have h3 := HDT.out; have h4 := HTU.out; unfold add32 at h1 h2 h3 h4; omega), rfl, rfl, rfl, congrArg (Value.int .u32) (by have h1 := HT.out; have h3 := HDT.out; unfold add32 at h1 h3; omega), rfl, rfl, rfl, HX.out, rfl⟩
      case measure => simp [RowKit.intOf]; omega
    · have hk2 : k = 64 := by omega
      rw [hk2] at hr
      have hcmp : comp s b = addL s [a, b1, c, d, e, f, g, h] := by unfold comp; rw [hr]
      have g0 := H0.out.drewN m
      have g2 := H2.out.drewN m
      have gB := below_drewN HB.out m
      obtain ⟨W6, hW6⟩ : ∃ W, W5.drewN m = W := ⟨_, rfl⟩
      rw [hW6] at g0 g2 gB ⊢
      obtain ⟨L, hL⟩ : ∃ L, [a, b1, c, d, e, f, g, h] = L := ⟨_, rfl⟩
      have hLl : L.length = 8 := by rw [← hL]; rfl
      have hix := fun i (hi : i < 8) => index32 (P := Tryd.prog) 75 70 L 8 hLl Tryd.underlying75 Tryd.isAgg70 Tryd.sizeOf70 i hi
      rw [← hL] at hix
      have HIX := Lib.hid (show ∀ i, i < 8 → ∀ w, (Instr.index 75 (.agg #[.int .u32 (a : Nat), .int .u32 (b1 : Nat), .int .u32 (c : Nat), .int .u32 (d : Nat), .int .u32 (e : Nat), .int .u32 (f : Nat), .int .u32 (g : Nat), .int .u32 (h : Nat)]) (.int .i64 (i : Nat))).run Tryd.prog w = .ok (.int .u32 (([a, b1, c, d, e, f, g, h].getD i 0 : Nat) : Int)) w from hix)
      rw [hL] at HIX hcmp
      have H0' := Lib.hid g0; have H2' := Lib.hid g2; have HB' := Lib.hid gB; have HC := Lib.hid hcmp; have HL := Lib.hid hLl
      have lL : ∀ x ∈ L, x < 4294967296 := by have := rnds_lt (sched b 48) hS 64; rw [hr, hL] at this; exact this
      clear hk2 hr hcmp g0 g2 gB hW6 hL hLl hix c0' c1' c2' c3' c4' c5' c6' c7' hlt0
      go_wp2_with fail
      go_loopw [109] (fun i wr => ∃ k : Nat, k ≤ 8 ∧ i = .int .i64 k ∧ Is32 wr B 75 ((addL s L).take k ++ s.drop k) ∧ Is32 wr (B + 1 + 1) 75 (List.replicate 8 0) ∧ Below B w wr) (fun i _ => 8 - (RowKit.intOf i).toNat)
      case atStart => exact ⟨0, by omega, rfl, by simpa using H0'.out, H2'.out, HB'.out⟩
      case round =>
        obtain ⟨j, hj, rfl, hA, hR, hbr⟩ := hrel
        by_cases hltj : j < 8
        · have hj2 : (j : Int) < 8 := by omega
          have hidx := HIX.out j hltj
          have hcell := hA.cell j (by rw [addTo_length s L (by rw [HSL.out, HL.out]) j (by rw [HSL.out]; omega), HSL.out]; omega)
          rw [addTo_get s L (by rw [HSL.out, HL.out]) j (by rw [HSL.out]; omega)] at hcell
          have hfro := hA.frozen j
          have hst := addTo_step s L (by rw [HSL.out, HL.out]) j (by rw [HSL.out]; omega)
          obtain ⟨x, ex⟩ : ∃ x, s.getD j 0 = x := ⟨_, rfl⟩
          obtain ⟨y, ey⟩ : ∃ x, L.getD j 0 = x := ⟨_, rfl⟩
          rw [ex] at hcell hst
          rw [ey] at hidx hst
          have z := wadd32 x y
          obtain ⟨v, ev⟩ : ∃ v, add32 x y = v := ⟨_, rfl⟩
          rw [ev] at z hst
          have HST := Lib.hid hst; have HA := Lib.hid hA; have HR := Lib.hid hR; have HB2 := Lib.hid hbr
          clear hst hA hR hbr ex ey ev
          go_wp2
          go_roundw
          case rel => exact ⟨j + 1, by omega, by go_num, by rw [← HST.out]; exact HA.out.store _ _, HR.out.other _ (by show B + 1 + 1 ≠ B; omega), HB2.out.setCell (by simp) _⟩
          case measure => simp [RowKit.intOf]; omega
        · have hj2 : j = 8 := by omega
          rw [hj2] at hA
          have hA' : Is32 wr B 75 (comp s b) := by
            rw [HC.out]
            rwa [List.take_of_length_le (by rw [addL_length _ _ (by rw [HSL.out, HL.out]), HSL.out]; omega), List.drop_of_length_le (by rw [HSL.out]; omega), List.append_nil] at hA
          have hi60 : (Tryd.prog.info? 75).map (·.size) = some (u32s (comp s b)).size := by rw [u32s_size, comp_length _ _ HSL.out]; kernel_rfl
          have HA := Lib.hid hA'; have HR := Lib.hid hR; have HB2 := Lib.hid hbr; have HI60 := Lib.hid hi60
          clear hA hA' hR hbr hj2 hi60
          go_wp2_with (first | (refine wpList_load_row rfl 75 (.tmp 2) rfl B rfl 75 (u32s (comp s b)) (0, 0) _ HA.out Tryd.underlying75 rfl HI60.out ?_) | (refine wpList_store_row rfl 75 (.tmp 4) (.tmp 120) rfl (B + 1 + 1) (u32s (comp s b)) rfl rfl 75 (u32s (List.replicate 8 0)) HR.out HI60.out (by simp [comp_length _ _ HSL.out]) (u32s_one _) ?_))
          exact bodyPost_ret (v := .agg (u32s (comp s b))) (results_cell_row rfl _ _ (B + 1 + 1) 75 _ (0, 0) _ rfl (setRow_heap _ _ _ _ _ _ HR.out) Tryd.underlying75 rfl HI60.out) rfl ⟨rfl, by rw [HBn.out]; exact below_setRow (g := B + 1 + 1) HB2.out (by omega) _⟩
end Go.Proofs.YtdolmahodhgfpaaDoor
