/-
  The contract of the reference's Parse. The contracts of the reference of layer 5: part, Print. The contract of the reference of layer 5: begins, which reads one part of a unit. The contract of the reference of layer 5: Parse. Facts that several of layer 5's laws use. Bytes of a text laid in a block and changed there; slices of strings.
-/
import Derived.Test.YtcglcgphgahnpaaGreatDoorJ24
import Derived.Test.YtcglcgphgahnpaaGreatDoorJ32
set_option maxRecDepth 100000
set_option maxHeartbeats 16000000
namespace Go.Proofs.YtcglcgphgahnpaaGreatDoor
open Go Go.Proofs Go.RowKit Go.Lib
theorem ratAt_set {W : World} {A : Nat} {n d x y : ByteArray} (h : RatAt W A n d) : RatAt ((W.setCell ⟨A, 0, none⟩ (.string x)).setCell ⟨A, 1, none⟩ (.string y)) A x y := by
 obtain ⟨h1, h2, h3, h4⟩ := h
 have k0 := World.cell?_setCell_same W ⟨A, 0, none⟩ (.string x) h1
 have k1 := (World.cell?_setCell_other W ⟨A, 0, none⟩ ⟨A, 1, none⟩ (.string x) (by intro e; injection e with e1 e2; omega)).trans h2
 have l0 := (World.cell?_setCell_other (W.setCell ⟨A, 0, none⟩ (.string x)) ⟨A, 1, none⟩ ⟨A, 0, none⟩ (.string y) (by intro e; injection e with e1 e2; omega)).trans k0
 have l1 := World.cell?_setCell_same (W.setCell ⟨A, 0, none⟩ (.string x)) ⟨A, 1, none⟩ (.string y) k1
 exact ⟨l0, l1, by simp [h3], by simp [h4]⟩
theorem ratAt_other {W : World} {A B : Nat} {n d : ByteArray} {x y : Value} (hne : A ≠ B) (h : RatAt W B n d) : RatAt ((W.setCell ⟨A, 0, none⟩ x).setCell ⟨A, 1, none⟩ y) B n d := by
 obtain ⟨h1, h2, h3, h4⟩ := h
 have k0 := (World.cell?_setCell_other W ⟨A, 0, none⟩ ⟨B, 0, none⟩ x (by intro e; injection e with e1 e2; omega)).trans h1
 have k1 := (World.cell?_setCell_other W ⟨A, 0, none⟩ ⟨B, 1, none⟩ x (by intro e; injection e with e1 e2; omega)).trans h2
 have l0 := (World.cell?_setCell_other (W.setCell ⟨A, 0, none⟩ x) ⟨A, 1, none⟩ ⟨B, 0, none⟩ y (by intro e; injection e with e1 e2; omega)).trans k0
 have l1 := (World.cell?_setCell_other (W.setCell ⟨A, 0, none⟩ x) ⟨A, 1, none⟩ ⟨B, 1, none⟩ y (by intro e; injection e with e1 e2; omega)).trans k1
 exact ⟨l0, l1, by simp [h3], by simp [h4]⟩
theorem parseR4_any (s : ByteArray) (hs : s.size ≤ 1000000) (w : World) :
 Calls Tryz.prog 74 #[.string s] w fun e w' => e = .returned (.tuple #[.agg #[.string (parN s), .string (parD s)], .int .i64 (parE s)]) ∧ Below w.heap.size w w' := by
 obtain ⟨W1, hW1, b1, hcc⟩ := box_two w ⟨#[]⟩ ⟨#[]⟩ s ⟨#[49]⟩
 obtain ⟨ra, rb⟩ := hcc W1 (Below.refl _ _)
 have HW1 := hid hW1; have B1 := hid b1; have RA := hid ra; have RB := hid rb
 obtain ⟨O, hO⟩ : ∃ O, (.returned (.tuple #[.agg #[.string (parN s), .string (parD s)], .int .i64 (parE s)]) : Ending) = O := ⟨_, rfl⟩
 have HO := hid hO
 rw [hO]
 clear hW1 b1 ra rb hO hcc
 go_enter Tryz.func74, Tryz.ntmps74
 go_wp2_with fail
 rw [HW1.out]
 go_loopw [5] (fun i wr => ∃ k : Nat, k ≤ s.size ∧ i = .int .i64 (k : Int) ∧ Hid (∀ j (hj : j < s.size), j < k → (s[j]'hj).toNat ≠ 47) ∧ wr = W1) (fun i _ => s.size - (RowKit.intOf i).toNat)
 case atStart => exact ⟨0, Nat.zero_le _, rfl, fun _ _ h => by omega, rfl⟩
 obtain ⟨k, hk, rfl, hno, rfl⟩ := hrel
 by_cases hlt : k < s.size
 · have hki : (k : Int) < (s.size : Int) := by omega
   have hix := fun W => index_str s k hlt W
   obtain ⟨x, hx⟩ : ∃ x, (s[k]'hlt).toNat = x := ⟨_, rfl⟩
   rw [hx] at hix
   by_cases h47 : x = 47
   · have hsl := slash_here hlt (fun i hi h => hno.out i hi h) (by rw [hx, h47])
     have e1 : cutN s = s.extract 0 k := by unfold cutN; rw [hsl, if_pos hlt]
     have e2 : cutD s = s.extract (k + 1) s.size := by unfold cutD; rw [hsl, if_pos hlt]
     have l1 := cutN_size s
     have l2 := cutD_size s
     rw [e1] at l1
     rw [e2] at l2
     subst h47
     have s1 := fun W => slice_to s k (by omega) W
     have s2 := fun W => slice_behind s k (by omega) W
     have hw : IntKind.i64.wrap ((k : Int) + 1) = (k : Int) + 1 := IntWalk.i64_in _ (by omega)
     generalize s.extract 0 k = X at *
     generalize s.extract (k + 1) s.size = Y at *
     have HE := hid (show cutN s = X ∧ cutD s = Y from ⟨e1, e2⟩)
     have q1 := ratAt_set (x := X) (y := Y) RB.out
     have q2 := ratAt_other (x := .string X) (y := .string Y) (show w.heap.size + 1 ≠ w.heap.size by omega) RA.out
     have QB := hid ((B1.out.setCell (p := ⟨w.heap.size + 1, 0, none⟩) (Nat.le_succ _) (.string X)).setCell (p := ⟨w.heap.size + 1, 1, none⟩) (Nat.le_succ _) (.string Y))
     have Q1 := hid q1; have Q2 := hid q2
     clear e1 e2 hsl hx q1 q2 hno
     obtain ⟨xa, xb, xc, xd⟩ := RB.out
     go_wp2_with fail
     go_region
     have Q3 := hid (show RatAt (((wr.setCell ⟨w.heap.size + 1, 0, none⟩ (.string X)).setCell ⟨w.heap.size + 1, 1, none⟩ (.string Y)).drew) (w.heap.size + 1) X Y from Q1.out)
     have Q4 := hid (show RatAt (((wr.setCell ⟨w.heap.size + 1, 0, none⟩ (.string X)).setCell ⟨w.heap.size + 1, 1, none⟩ (.string Y)).drew) w.heap.size ⟨#[]⟩ ⟨#[]⟩ from Q2.out)
     have Q5 := hid (show Below w.heap.size w (((wr.setCell ⟨w.heap.size + 1, 0, none⟩ (.string X)).setCell ⟨w.heap.size + 1, 1, none⟩ (.string Y)).drew) from QB.out.drew)
     clear Q1 Q2 QB xa xb xc xd RA RB B1 hix s1 s2 hw hki hlt hk HW1
     generalize ((wr.setCell ⟨w.heap.size + 1, 0, none⟩ (.string X)).setCell ⟨w.heap.size + 1, 1, none⟩ (.string Y)).drew = W3 at *
     have va := fun W => validR4_any X Y (by omega) (by omega) W
     have cp := fun W => printR4_any X Y (by omega) (by omega) W
     have hpe : parseB s = (validQ X Y && decide (printB X Y = s)) := by unfold parseB; rw [HE.out.1, HE.out.2]
     have hps : ((printB X Y).toList == s.toList) = decide (printB X Y = s) := by rw [str_eq_iff]
     cases hv : validQ X Y with
     | false =>
      rw [hv] at va hpe
      have HB := hid (show O = .returned (.tuple #[.agg #[.string ⟨#[]⟩, .string ⟨#[]⟩], .int .i64 40]) by rw [← HO.out]; unfold parN parD parE; rw [hpe]; rfl)
      have VA := hid va
      clear va cp hpe hps hv HO HE l1 l2 hs
      obtain ⟨ya, yb, yc, yd⟩ := Q3.out
      obtain ⟨za, zb, zc, zd⟩ := Q4.out
      go_wp2_with fail
      refine (VA.out _).mono ?_
      rintro e w4 ⟨rfl, b4⟩
      have P4 := hid (below_up Q5.out b4)
      clear ya yb yc yd za zb zc zd
      obtain ⟨ya, yb, yc, yd⟩ := RatAt.below Q3.out b4
      obtain ⟨za, zb, zc, zd⟩ := RatAt.below Q4.out b4
      clear b4
      go_wp2_with fail
      exact bodyPost_ret (v := .tuple #[.agg #[.string ⟨#[]⟩, .string ⟨#[]⟩], .int .i64 40]) (by simp [results, Tryz.results74, go_sem, za, zb]) rfl ⟨HB.out.symm, (P4.out.setCell (p := ⟨w.heap.size, 0, none⟩) (Nat.le_refl _) _).setCell (p := ⟨w.heap.size, 1, none⟩) (Nat.le_refl _) _⟩
     | true =>
      rw [hv] at va hpe
      rw [Bool.true_and] at hpe
      generalize hP : printB X Y = Pt at *
      by_cases he : Pt = s
      · rw [decide_eq_true he] at hpe hps
        have HB := hid (show O = .returned (.tuple #[.agg #[.string X, .string Y], .int .i64 0]) by rw [← HO.out]; unfold parN parD parE; rw [hpe, if_pos rfl, if_pos rfl, if_pos rfl, HE.out.1, HE.out.2])
        have VA := hid va; have CP := hid cp
        clear va cp hpe hv HO HE l1 l2 hs he hP
        obtain ⟨ya, yb, yc, yd⟩ := Q3.out
        obtain ⟨za, zb, zc, zd⟩ := Q4.out
        go_wp2_with fail
        refine (VA.out _).mono ?_
        rintro e w4 ⟨rfl, b4⟩
        have P4 := hid (below_up Q5.out b4)
        have R4 := hid (RatAt.below Q3.out b4)
        have S4 := hid (RatAt.below Q4.out b4)
        clear ya yb yc yd za zb zc zd b4
        obtain ⟨ya, yb, yc, yd⟩ := R4.out
        obtain ⟨za, zb, zc, zd⟩ := S4.out
        go_wp2_with fail
        refine (CP.out _).mono ?_
        rintro e w5 ⟨rfl, b5⟩
        have P5 := hid (below_up P4.out b5)
        clear ya yb yc yd za zb zc zd
        obtain ⟨ya, yb, yc, yd⟩ := RatAt.below R4.out b5
        obtain ⟨za, zb, zc, zd⟩ := RatAt.below S4.out b5
        clear b5
        go_wp2_with fail
        exact bodyPost_ret (v := .tuple #[.agg #[.string X, .string Y], .int .i64 0]) (by simp [results, Tryz.results74, go_sem, za, zb]) rfl ⟨HB.out.symm, (P5.out.setCell (p := ⟨w.heap.size, 0, none⟩) (Nat.le_refl _) _).setCell (p := ⟨w.heap.size, 1, none⟩) (Nat.le_refl _) _⟩
      rw [decide_eq_false he] at hpe hps
      have HB := hid (show O = .returned (.tuple #[.agg #[.string ⟨#[]⟩, .string ⟨#[]⟩], .int .i64 40]) by rw [← HO.out]; unfold parN parD parE; rw [hpe]; rfl)
      have VA := hid va; have CP := hid cp
      clear va cp hpe hv HO HE l1 l2 hs he hP
      obtain ⟨ya, yb, yc, yd⟩ := Q3.out
      obtain ⟨za, zb, zc, zd⟩ := Q4.out
      go_wp2_with fail
      refine (VA.out _).mono ?_
      rintro e w4 ⟨rfl, b4⟩
      have P4 := hid (below_up Q5.out b4)
      have R4 := hid (RatAt.below Q3.out b4)
      have S4 := hid (RatAt.below Q4.out b4)
      clear ya yb yc yd za zb zc zd b4
      obtain ⟨ya, yb, yc, yd⟩ := R4.out
      obtain ⟨za, zb, zc, zd⟩ := S4.out
      go_wp2_with fail
      refine (CP.out _).mono ?_
      rintro e w5 ⟨rfl, b5⟩
      have P5 := hid (below_up P4.out b5)
      clear ya yb yc yd za zb zc zd
      obtain ⟨ya, yb, yc, yd⟩ := RatAt.below R4.out b5
      obtain ⟨za, zb, zc, zd⟩ := RatAt.below S4.out b5
      clear b5
      go_wp2_with fail
      exact bodyPost_ret (v := .tuple #[.agg #[.string ⟨#[]⟩, .string ⟨#[]⟩], .int .i64 40]) (by simp [results, Tryz.results74, go_sem, za, zb]) rfl ⟨HB.out.symm, (P5.out.setCell (p := ⟨w.heap.size, 0, none⟩) (Nat.le_refl _) _).setCell (p := ⟨w.heap.size, 1, none⟩) (Nat.le_refl _) _⟩
   have h47b : ((x : Int) == 47) = false := by rw [beq_eq_false_iff_ne]; omega
   have hn2 : ∀ j (hj : j < s.size), j < k + 1 → (s[j]'hj).toNat ≠ 47 := fun j hj h => by
    rcases Nat.lt_or_ge j k with h2 | h2
    · exact hno.out j hj h2
    have : j = k := by omega
    subst this
    rw [hx]; exact h47
   have HN := hid hn2
   clear hn2 hno hx h47
   go_wp2_with fail
   go_roundw
   case rel => exact ⟨k + 1, by omega, by go_num, HN.out, trivial⟩
   case measure => simp [RowKit.intOf]; omega
 have hki : ¬ (k : Int) < (s.size : Int) := by omega
 obtain rfl : k = s.size := by omega
 have hsl := no_slash (s := s) (fun i hi => hno.out i hi hi)
 have e1 : cutN s = s := by unfold cutN; rw [hsl, if_neg (by omega)]
 have e2 : cutD s = ⟨#[49]⟩ := by unfold cutD; rw [hsl, if_neg (by omega)]
 have HE := hid (show cutN s = s ∧ cutD s = ⟨#[49]⟩ from ⟨e1, e2⟩)
 have l1 : s.size ≤ 1000000 := hs
 have l2 : (⟨#[49]⟩ : ByteArray).size ≤ 1000000 := by show (1 : Nat) ≤ _; omega
 have Q3 := hid RB.out; have Q4 := hid RA.out; have Q5 := hid B1.out
 clear e1 e2 hsl hno RA RB B1 HW1 hlt hk
 have va := fun W => validR4_any s ⟨#[49]⟩ (by omega) (by omega) W
 have cp := fun W => printR4_any s ⟨#[49]⟩ (by omega) (by omega) W
 have hpe : parseB s = (validQ s ⟨#[49]⟩ && decide (printB s ⟨#[49]⟩ = s)) := by unfold parseB; rw [HE.out.1, HE.out.2]
 have hps : ((printB s ⟨#[49]⟩).toList == s.toList) = decide (printB s ⟨#[49]⟩ = s) := by rw [str_eq_iff]
 cases hv : validQ s ⟨#[49]⟩ with
 | false =>
  rw [hv] at va hpe
  have HB := hid (show O = .returned (.tuple #[.agg #[.string ⟨#[]⟩, .string ⟨#[]⟩], .int .i64 40]) by rw [← HO.out]; unfold parN parD parE; rw [hpe]; rfl)
  have VA := hid va
  clear va cp hpe hps hv HO HE l1 l2 hs
  obtain ⟨ya, yb, yc, yd⟩ := Q3.out
  obtain ⟨za, zb, zc, zd⟩ := Q4.out
  go_wp2_with fail
  refine (VA.out _).mono ?_
  rintro e w4 ⟨rfl, b4⟩
  have P4 := hid (below_up Q5.out b4)
  clear ya yb yc yd za zb zc zd
  obtain ⟨ya, yb, yc, yd⟩ := RatAt.below Q3.out b4
  obtain ⟨za, zb, zc, zd⟩ := RatAt.below Q4.out b4
  clear b4
  go_wp2_with fail
  exact bodyPost_ret (v := .tuple #[.agg #[.string ⟨#[]⟩, .string ⟨#[]⟩], .int .i64 40]) (by simp [results, Tryz.results74, go_sem, za, zb]) rfl ⟨HB.out.symm, (P4.out.setCell (p := ⟨w.heap.size, 0, none⟩) (Nat.le_refl _) _).setCell (p := ⟨w.heap.size, 1, none⟩) (Nat.le_refl _) _⟩
 | true =>
  rw [hv] at va hpe
  rw [Bool.true_and] at hpe
  generalize hP : printB s ⟨#[49]⟩ = Pt at *
  by_cases he : Pt = s
  · rw [decide_eq_true he] at hpe hps
    have HB := hid (show O = .returned (.tuple #[.agg #[.string s, .string ⟨#[49]⟩], .int .i64 0]) by rw [← HO.out]; unfold parN parD parE; rw [hpe, if_pos rfl, if_pos rfl, if_pos rfl, HE.out.1, HE.out.2])
    have VA := hid va; have CP := hid cp
    clear va cp hpe hv HO HE l1 l2 hs he hP
    obtain ⟨ya, yb, yc, yd⟩ := Q3.out
    obtain ⟨za, zb, zc, zd⟩ := Q4.out
    go_wp2_with fail
    refine (VA.out _).mono ?_
    rintro e w4 ⟨rfl, b4⟩
    have P4 := hid (below_up Q5.out b4)
    have R4 := hid (RatAt.below Q3.out b4)
    have S4 := hid (RatAt.below Q4.out b4)
    clear ya yb yc yd za zb zc zd b4
    obtain ⟨ya, yb, yc, yd⟩ := R4.out
    obtain ⟨za, zb, zc, zd⟩ := S4.out
    go_wp2_with fail
    refine (CP.out _).mono ?_
    rintro e w5 ⟨rfl, b5⟩
    have P5 := hid (below_up P4.out b5)
    clear ya yb yc yd za zb zc zd
    obtain ⟨ya, yb, yc, yd⟩ := RatAt.below R4.out b5
    obtain ⟨za, zb, zc, zd⟩ := RatAt.below S4.out b5
    clear b5
    go_wp2_with fail
    exact bodyPost_ret (v := .tuple #[.agg #[.string s, .string ⟨#[49]⟩], .int .i64 0]) (by simp [results, Tryz.results74, go_sem, za, zb]) rfl ⟨HB.out.symm, (P5.out.setCell (p := ⟨w.heap.size, 0, none⟩) (Nat.le_refl _) _).setCell (p := ⟨w.heap.size, 1, none⟩) (Nat.le_refl _) _⟩
  rw [decide_eq_false he] at hpe hps
  have HB := hid (show O = .returned (.tuple #[.agg #[.string ⟨#[]⟩, .string ⟨#[]⟩], .int .i64 40]) by rw [← HO.out]; unfold parN parD parE; rw [hpe]; rfl)
  have VA := hid va; have CP := hid cp
  clear va cp hpe hv HO HE l1 l2 hs he hP
  obtain ⟨ya, yb, yc, yd⟩ := Q3.out
  obtain ⟨za, zb, zc, zd⟩ := Q4.out
  go_wp2_with fail
  refine (VA.out _).mono ?_
  rintro e w4 ⟨rfl, b4⟩
  have P4 := hid (below_up Q5.out b4)
  have R4 := hid (RatAt.below Q3.out b4)
  have S4 := hid (RatAt.below Q4.out b4)
  clear ya yb yc yd za zb zc zd b4
  obtain ⟨ya, yb, yc, yd⟩ := R4.out
  obtain ⟨za, zb, zc, zd⟩ := S4.out
  go_wp2_with fail
  refine (CP.out _).mono ?_
  rintro e w5 ⟨rfl, b5⟩
  have P5 := hid (below_up P4.out b5)
  clear ya yb yc yd za zb zc zd
  obtain ⟨ya, yb, yc, yd⟩ := RatAt.below R4.out b5
  obtain ⟨za, zb, zc, zd⟩ := RatAt.below S4.out b5
  clear b5
  go_wp2_with fail
  exact bodyPost_ret (v := .tuple #[.agg #[.string ⟨#[]⟩, .string ⟨#[]⟩], .int .i64 40]) (by simp [results, Tryz.results74, go_sem, za, zb]) rfl ⟨HB.out.symm, (P5.out.setCell (p := ⟨w.heap.size, 0, none⟩) (Nat.le_refl _) _).setCell (p := ⟨w.heap.size, 1, none⟩) (Nat.le_refl _) _⟩
theorem part_any (i : Nat) (wd : ByteArray) (hw : bytesL wd = wordL i) (hs : wd.size ≤ 4) (n : Int) (hn : InE n) (w : World) : Calls Tryz.prog 68 #[.string wd, .int .i64 n] w fun e w' => e = .returned (.string (partT i n)) ∧ Below w.heap.size w w' := by
 by_cases h0 : n = 0
 · subst h0
   have e : partT i 0 = ⟨#[]⟩ := rfl
   rw [e]
   clear e
   go_enter Tryz.func68, Tryz.ntmps68
   go_wp2
   go_ret
   exact ⟨rfl, Below.refl _ _⟩
 by_cases h1 : n = 1
 · subst h1
   have HE := hid (part_one hw)
   clear hw
   go_enter Tryz.func68, Tryz.ntmps68
   go_wp2
   go_ret
   exact ⟨congrArg (fun s => Ending.returned (.string s)) HE.out, Below.refl _ _⟩
 have HE := hid (part_more h0 h1 hw)
 unfold InE at hn
 obtain ⟨n1, n2⟩ := hn
 have cf := fun W => fromR_any n (by omega) (by omega) W
 have CF := hid cf
 have hz := fits_size (x := n) (fits_of_le (k := 3) (by decide +kernel) (by omega))
 have b0 : (n == 0) = false := by rw [beq_eq_false_iff_ne]; exact h0
 have b1 : (n == 1) = false := by rw [beq_eq_false_iff_ne]; exact h1
 clear cf hw h0 h1
 generalize textI n = tx at *
 go_enter Tryz.func68, Tryz.ntmps68
 go_wp2_with fail
 refine (CF.out _).mono ?_
 rintro e z1 ⟨rfl, B1⟩
 have B1' := hid B1
 clear B1
 go_wp2
 go_ret
 exact ⟨congrArg (fun s => Ending.returned (.string s)) HE.out, B1'.out⟩
theorem printUR_any (n d : ByteArray) (t b m c : Int) (hn : n.size ≤ 1099511627776) (hd : d.size ≤ 1099511627776) (w : World) : Calls Tryz.prog 30 #[.agg #[.string n, .string d, .int .i64 t, .int .i64 b, .int .i64 m, .int .i64 c]] w fun e w' => e = .returned (.string (printU n d t b m c)) ∧ Below w.heap.size w w' := by
 obtain ⟨W0, hW0, b0, hcc⟩ := box_qty w n d t b m c
 have cv := fun W => validUR_any n d t b m c hn hd W
 have HW := hid hW0; have B0 := hid b0; have HC := hid hcc
 clear hW0 b0 hcc
 cases hv : okU n d t b m c with
 | false =>
  rw [printU_bad hv]
  rw [hv] at cv
  have CV := hid cv
  clear cv hv
  go_enter Tryz.func30, Tryz.ntmps30
  obtain ⟨⟨p0, p1, p2, p3, p4, p5⟩, ⟨p6, p7, p8, p9, pa, pb⟩⟩ := qty_facts (HC.out W0 (Below.refl _ _))
  go_wp2_with (rw [HW.out])
  refine (CV.out _).mono ?_
  rintro e1 z1 ⟨rfl, b1⟩
  have P1 := hid (below_up B0.out b1)
  clear b1 p0 p1 p2 p3 p4 p5 p6 p7 p8 p9 pa pb
  go_wp2
  go_ret
  exact ⟨rfl, P1.out⟩
 | true =>
  have HE := hid (printU_text hv)
  obtain ⟨ht, hb, hm, hc⟩ := okE_in (okU_parts hv).1
  have hl := printB_len (okU_parts hv).2
  have l0 := partT_size (i := 0) (by omega) ht; have l1 := partT_size (i := 1) (by omega) hb; have l2 := partT_size (i := 2) (by omega) hm; have l3 := partT_size (i := 3) (by omega) hc
  have cp := fun W => printR4_any n d hn hd W
  have c0 := fun W => part_any 0 ⟨#[117, 115]⟩ rfl (by decide) t ht W
  have c1 := fun W => part_any 1 ⟨#[98, 121, 116, 101]⟩ rfl (by decide) b hb W
  have c2 := fun W => part_any 2 ⟨#[99, 101, 110, 116]⟩ rfl (by decide) m hm W
  have c3 := fun W => part_any 3 ⟨#[111, 110, 101]⟩ rfl (by decide) c hc W
  rw [hv] at cv
  generalize printU n d t b m c = RT at *
  generalize printB n d = PT at *
  generalize partT 0 t = T0 at *
  generalize partT 1 b = T1 at *
  generalize partT 2 m = T2 at *
  generalize partT 3 c = T3 at *
  have CV := hid cv; have CP := hid cp; have C0 := hid c0; have C1 := hid c1; have C2 := hid c2; have C3 := hid c3
  clear cv cp c0 c1 c2 c3 hv ht hb hm hc
  have k1 : ¬ 9223372036854775807 < PT.size + T0.size := by omega
  have k2 : ¬ 9223372036854775807 < PT.size + T0.size + T1.size := by omega
  have k3 : ¬ 9223372036854775807 < PT.size + T0.size + T1.size + T2.size := by omega
  have k4 : ¬ 9223372036854775807 < PT.size + T0.size + T1.size + T2.size + T3.size := by omega
  go_enter Tryz.func30, Tryz.ntmps30
  obtain ⟨⟨p0, p1, p2, p3, p4, p5⟩, ⟨p6, p7, p8, p9, pa, pb⟩⟩ := qty_facts (HC.out W0 (Below.refl _ _))
  go_wp2_with (rw [HW.out])
  refine (CV.out _).mono ?_
  rintro e1 z1 ⟨rfl, b1⟩
  have B1 := hid b1
  clear b1 p0 p1 p2 p3 p4 p5 p6 p7 p8 p9 pa pb
  obtain ⟨⟨p0, p1, p2, p3, p4, p5⟩, ⟨p6, p7, p8, p9, pa, pb⟩⟩ := qty_facts (HC.out z1 B1.out)
  obtain ⟨z2, hz2, b2, f2⟩ := box_unit z1 t b m c
  have V2 := hid hz2; have F2 := hid f2
  have B2 := hid (below_up B1.out b2)
  have P2 := hid (below_up B0.out B2.out)
  clear hz2 b2 f2
  go_upto_region 4 with (rw [V2.out])
  clear p0 p1 p2 p3 p4 p5 p6 p7 p8 p9 pa pb
  have K := hid (show ∀ W, Below z2.heap.size z2 W → ((W.cell? ⟨w.heap.size, 0, none⟩ = some (.string n) ∧ W.cell? ⟨w.heap.size, 1, none⟩ = some (.string d)) ∧ (W.cell? ⟨z1.heap.size, 0, none⟩ = some (.int .i64 t) ∧ W.cell? ⟨z1.heap.size, 1, none⟩ = some (.int .i64 b) ∧ W.cell? ⟨z1.heap.size, 2, none⟩ = some (.int .i64 m) ∧ W.cell? ⟨z1.heap.size, 3, none⟩ = some (.int .i64 c))) from fun W x => by
   obtain ⟨⟨a0, a1, _, _, _, _⟩, _⟩ := qty_facts (HC.out W (below_up B2.out x))
   exact ⟨⟨a0, a1⟩, (unit_facts (F2.out W x)).1⟩)
  have g := Below.refl z2.heap.size z2
  go_region_held3 (fun W => (W.cell? ⟨w.heap.size, 0, none⟩ = some (.string n) ∧ W.cell? ⟨w.heap.size, 1, none⟩ = some (.string d)) ∧ (W.cell? ⟨z1.heap.size, 0, none⟩ = some (.int .i64 t) ∧ W.cell? ⟨z1.heap.size, 1, none⟩ = some (.int .i64 b) ∧ W.cell? ⟨z1.heap.size, 2, none⟩ = some (.int .i64 m) ∧ W.cell? ⟨z1.heap.size, 3, none⟩ = some (.int .i64 c))) (first | exact K.out _ g | exact K.out _ ⟨g.os, g.tape, g.output, g.size, g.block⟩) (first | (go_at_call 67; (with_reducible refine (CP.out _).mono ?_); (rintro e1 y ⟨rfl, k'⟩); (have g : Below z2.heap.size z2 y := below_up (by first | exact g | exact ⟨g.os, g.tape, g.output, g.size, g.block⟩) k')) | (go_at_call 68; (with_reducible refine (C0.out _).mono ?_); (rintro e1 y ⟨rfl, k'⟩); (have g : Below z2.heap.size z2 y := below_up (by first | exact g | exact ⟨g.os, g.tape, g.output, g.size, g.block⟩) k')) | (go_at_call 68; (with_reducible refine (C1.out _).mono ?_); (rintro e1 y ⟨rfl, k'⟩); (have g : Below z2.heap.size z2 y := below_up (by first | exact g | exact ⟨g.os, g.tape, g.output, g.size, g.block⟩) k')) | (go_at_call 68; (with_reducible refine (C2.out _).mono ?_); (rintro e1 y ⟨rfl, k'⟩); (have g : Below z2.heap.size z2 y := below_up (by first | exact g | exact ⟨g.os, g.tape, g.output, g.size, g.block⟩) k')) | (go_at_call 68; (with_reducible refine (C3.out _).mono ?_); (rintro e1 y ⟨rfl, k'⟩); (have g : Below z2.heap.size z2 y := below_up (by first | exact g | exact ⟨g.os, g.tape, g.output, g.size, g.block⟩) k')))
  all_goals (
   have PE := hid (below_up P2.out (show Below z2.heap.size z2 _ by first | exact g | exact ⟨g.os, g.tape, g.output, g.size, g.block⟩))
   go_wp2
   go_ret
   first | exact ⟨congrArg (fun s => Ending.returned (.string s)) HE.out, PE.out⟩ | exact ⟨congrArg (fun s => Ending.returned (.string s)) HE.out, PE.out.os, PE.out.tape, PE.out.output, PE.out.size, PE.out.block⟩)
theorem ret_pair {k k' : IntKind} {a a' b b' : Int} (h1 : a = a') (h2 : b = b') : Ending.returned (.tuple #[.int k a, .int k' b]) = .returned (.tuple #[.int k a', .int k' b']) := by rw [h1, h2]
theorem tok_len_le (l : List Nat) : (tokL l).length ≤ l.length := by
 have := congrArg List.length (tok_prefix l)
 simp only [List.length_append] at this
 omega
theorem tw_step {r : List Nat} {k : Nat} (hk : k < r.length) (h : k ≤ (r.takeWhile (· ≠ 32)).length) (h1 : r[k] ≠ 32) : k + 1 ≤ (r.takeWhile (· ≠ 32)).length := by
 induction r generalizing k with
 | nil => exact absurd hk (Nat.not_lt_zero _)
 | cons a q ih =>
  by_cases ha : a ≠ 32
  · rw [List.takeWhile_cons, if_pos (by simpa using ha)] at h ⊢
    rw [List.length_cons] at h ⊢
    cases k with
    | zero => omega
    | succ k => have := ih (k := k) (by simpa using hk) (by omega) (by simpa using h1); omega
  rw [List.takeWhile_cons, if_neg (by simpa using ha)] at h ⊢
  have hk0 : k = 0 := by simpa using h
  subst hk0
  exact absurd h1 (by simpa using ha)
theorem tw_stop {r : List Nat} {k : Nat} (h : k ≤ (r.takeWhile (· ≠ 32)).length) (h1 : k = r.length ∨ ∃ hk : k < r.length, r[k] = 32) : k = (r.takeWhile (· ≠ 32)).length := by
 induction r generalizing k with
 | nil => have : (List.takeWhile (· ≠ 32) ([] : List Nat)).length = 0 := rfl; omega
 | cons a q ih =>
  by_cases ha : a ≠ 32
  · rw [List.takeWhile_cons, if_pos (by simpa using ha)] at h ⊢
    rw [List.length_cons] at h ⊢
    cases k with
    | zero =>
     rcases h1 with h1 | ⟨hk, h1⟩
     · cases h1
     exact absurd h1 (by simpa using ha)
    | succ k =>
     have := ih (k := k) (by omega) (by
      rcases h1 with h1 | ⟨hk, h1⟩
      · left; simpa using h1
      right; exact ⟨by simpa using hk, by simpa using h1⟩)
     omega
  rw [List.takeWhile_cons, if_neg (by simpa using ha)] at h ⊢
  simpa using h
theorem tok_step {l : List Nat} {k : Nat} (hk : k < l.length) (h : k ≤ (tokL l).length) (h1 : k = 0 ∨ l[k] ≠ 32) : k + 1 ≤ (tokL l).length := by
 cases l with
 | nil => exact absurd hk (Nat.not_lt_zero _)
 | cons a r =>
  show k + 1 ≤ (a :: r.takeWhile (· ≠ 32)).length
  rw [List.length_cons]
  cases k with
  | zero => omega
  | succ k =>
   have h' : k + 1 ≤ (r.takeWhile (· ≠ 32)).length + 1 := h
   have := tw_step (r := r) (k := k) (by simpa using hk) (by omega) (by
    rcases h1 with h1 | h1
    · omega
    simpa using h1)
   omega
theorem tok_stop {l : List Nat} {k : Nat} (h : k ≤ (tokL l).length) (h1 : k = l.length ∨ k ≠ 0 ∧ ∃ hk : k < l.length, l[k] = 32) : k = (tokL l).length := by
 cases l with
 | nil => have : (tokL []).length = 0 := rfl; omega
 | cons a r =>
  have h' : k ≤ (r.takeWhile (· ≠ 32)).length + 1 := h
  show k = (r.takeWhile (· ≠ 32)).length + 1
  cases k with
  | zero =>
   rcases h1 with h1 | ⟨h1, _⟩
   · cases h1
   exact absurd rfl h1
  | succ k =>
   have := tw_stop (r := r) (k := k) (by omega) (by
    rcases h1 with h1 | ⟨_, hk, h1⟩
    · left; simpa using h1
    right; exact ⟨by simpa using hk, by simpa using h1⟩)
   omega
def NoneYet (i : Nat) (l : List Nat) (v : Int) : Prop := ∀ k ∈ expsL, k < v → tokL l ≠ partL i k
theorem none_all {i : Nat} {l : List Nat} {v : Int} (h : NoneYet i l v) (hv : 3 < v) : scanE i l = (0, l) := seek_miss _ (fun k hk => h k hk (by have := (exps_in hk).1; unfold InE at this; omega))
theorem none_next {i : Nat} {l : List Nat} {v : Int} (h : NoneYet i l v) (h1 : v ≠ 0 → tokL l ≠ partL i v) : NoneYet i l (v + 1) := fun k hk hlt => by
 by_cases e : k = v
 · subst e; exact h1 (exps_in hk).2
 exact h k hk (by omega)
theorem none_first (i : Nat) (l : List Nat) : NoneYet i l (-3) := fun k hk hlt => by have := (exps_in hk).1; unfold InE at this; omega
theorem tok_hit {i : Nat} (hi : i < 4) {l : List Nat} {v : Int} (hv : InE v) (h0 : v ≠ 0) (h : tokL l = partL i v) : scanE i l = (v, l.drop (tokL l).length) := seek_hit hi (exps_mem hv h0) h expsL (fun _ x => x) (exps_mem hv h0)
def endE (i : Nat) (s : ByteArray) (p : Nat) : Nat := s.size - (scanE i ((bytesL s).drop p)).2.length
theorem bytesL_at (s : ByteArray) (k : Nat) (h : k < s.size) (h' : k < (bytesL s).length) : (bytesL s)[k] = s[k].toNat := by
 rw [List.getElem_eq_iff]
 unfold bytesL
 rw [List.getElem?_map, Array.getElem?_toList, Array.getElem?_eq_getElem h]
 rfl
theorem drop_at (s : ByteArray) (p k : Nat) (h : p + k < s.size) (h' : k < ((bytesL s).drop p).length) : ((bytesL s).drop p)[k] = s[p + k].toNat := by
 rw [List.getElem_drop]
 exact bytesL_at s (p + k) h _
theorem begins_any (i : Nat) (hi : i < 4) (wd : ByteArray) (hw : bytesL wd = wordL i) (hws : wd.size ≤ 4) (s : ByteArray) (hs : s.size ≤ 1000000) (p : Nat) (hp : p ≤ s.size) (w : World) :
 Calls Tryz.prog 75 #[.string s, .int .i64 (p : Int), .string wd] w fun e w' => e = .returned (.tuple #[.int .i64 (scanE i ((bytesL s).drop p)).1, .int .i64 (endE i s p : Int)]) ∧ Below w.heap.size w w' := by
 have hll : ((bytesL s).drop p).length = s.size - p := by rw [List.length_drop, bytesL_size]
 have htl := tok_len_le ((bytesL s).drop p)
 have hat := fun k h h' => drop_at s p k h h'
 have hex := extract_bytes s p (p + (tokL ((bytesL s).drop p)).length)
 have htp := tok_prefix ((bytesL s).drop p)
 unfold endE
 generalize (bytesL s).drop p = l at *
 have hext : bytesL (s.extract p (p + (tokL l).length)) = tokL l := by
  rw [hex, Nat.add_sub_cancel_left]
  conv => lhs; arg 2; rw [← htp]
  exact List.take_left
 have HAT := hid hat; have HLL := hid hll; have HTL := hid htl; have HEXT := hid hext
 have HP := hid hp; have HS := hid hs
 have hpc := fun n (h : InE n) W => part_any i wd hw hws n h W
 have PC := hid hpc
 clear hat hll htl hex htp hext hpc hw hws
 go_enter Tryz.func75, Tryz.ntmps75
 go_wp2_with fail
 go_loop [8] (fun v => ∃ k : Nat, p ≤ k ∧ k ≤ s.size ∧ k - p ≤ (tokL l).length ∧ v = .int .i64 (k : Int)) (fun v => s.size - (RowKit.intOf v).toNat)
 case atStart => exact ⟨p, Nat.le_refl _, HP.out, by omega, rfl⟩
 obtain ⟨k, hk1, hk2, hk3, rfl⟩ := hrel
 have hll := HLL.out
 have htl := HTL.out
 by_cases hlt : k < s.size
 · have hlt2 : (k : Int) < s.size := by omega
   by_cases hkp : k = p
   · subst hkp
     have hbe : ((k : Int) == k) = true := by rw [beq_iff_eq]
     have hst := tok_step (l := l) (k := 0) (by omega) (by omega) (.inl rfl)
     have HST := hid hst; have HK := hid (And.intro hk2 hlt)
     clear hst hll htl hk3 hk1
     go_wp2
     go_round
     case rel => exact ⟨k + 1, by omega, by omega, by have := HST.out; omega, by go_num⟩
     case measure => simp [RowKit.intOf]; omega
   have hbe : ((k : Int) == p) = false := by rw [beq_eq_false_iff_ne]; omega
   have hi2 : k - p < l.length := by omega
   have hv := HAT.out (k - p) (by omega) hi2
   have e : p + (k - p) = k := by omega
   have hv2 : l[k - p] = (s[k]'hlt).toNat := by rw [hv]; congr 2
   by_cases h32 : (s[k]'hlt).toNat = 32
   · have hb : (((s[k]'hlt).toNat : Int) == 32) = true := by rw [h32]; rfl
     have hb2 : (((s[k]'hlt).toNat : Int) != 32) = false := by rw [h32]; rfl
     have hst := tok_stop (l := l) (k := k - p) hk3 (.inr ⟨by omega, hi2, by rw [hv2]; exact h32⟩)
     have HST := hid (show k = p + (tokL l).length by omega)
     clear hst hll htl hk3 hk1 hv hv2 e hi2 h32
     skip
     go_wp2_with fail
     go_loopw [9] (fun v wr => ∃ n : Int, -3 ≤ n ∧ n ≤ 4 ∧ v = .int .i64 n ∧ Hid (NoneYet i l n) ∧ Hid (Below w.heap.size w wr)) (fun v _ => (4 - RowKit.intOf v).toNat)
     case atStart => exact ⟨-3, by omega, by omega, rfl, hid (none_first i l), hid (Below.refl _ _)⟩
     obtain ⟨n, hn1, hn2, rfl, hny, hbw⟩ := hrel
     have hkp : (p : Int) ≤ k := by have := HST.out; omega
     have hks : (k : Int) ≤ s.size := by omega
     by_cases hn3 : n ≤ 3
     · have hin : InE n := ⟨hn1, hn3⟩
       by_cases h0 : n = 0
       · subst h0
         have hny2 := hid (none_next hny.out (fun h => absurd rfl h))
         clear hin
         go_upto_region 7 with fail
         go_quiet ((fail))
         go_wp2_with fail
         go_roundw
         case rel => exact ⟨0 + 1, by omega, by omega, rfl, hny2, hid ⟨hbw.out.os, hbw.out.tape, hbw.out.output, hbw.out.size, hbw.out.block⟩⟩
         case measure => simp [RowKit.intOf]
       have hen : (n != 0) = true := by rw [bne_iff_ne]; exact h0
       have hen2 : (n == 0) = false := by rw [beq_eq_false_iff_ne]; exact h0
       have pc := fun W => PC.out n hin W
       have PC2 := hid pc
       clear pc
       by_cases hm : tokL l = partL i n
       · have HIT := hid (tok_hit hi hin h0 hm)
         have hx : s.extract p k = partT i n := by
          refine bytesL_inj ?_
          have e := HEXT.out
          rw [← HST.out] at e
          rw [e, hm]
          unfold partT
          rw [bytesL_byteL (part_bytes' hi hin)]
         generalize partT i n = PV at *
         clear h0 hin hm
         go_upto_region 7 with fail
         have g := Below.refl wr.heap.size wr
         go_region_held3 (fun _ => True) (trivial) (first | (go_at_call 68; (with_reducible refine (PC2.out _).mono ?_); (rintro e1 y ⟨rfl, k'⟩); (have g : Below wr.heap.size wr y := below_up (by first | exact g | exact ⟨g.os, g.tape, g.output, g.size, g.block⟩) k')))
         all_goals (
          have PE := hid (below_up hbw.out (show Below wr.heap.size wr _ by first | exact g | exact ⟨g.os, g.tape, g.output, g.size, g.block⟩))
          go_wp2
          go_ret2
          have e1 := HIT.out
          have e2 := HST.out
          have e3 := HLL.out
          have e4 := HP.out
          have e5 : s.size - (scanE i l).2.length = k := by rw [e1]; show s.size - (l.drop (tokL l).length).length = k; rw [List.length_drop]; omega
          have e6 : (scanE i l).1 = n := by rw [e1]
          first | exact ⟨ret_pair e6.symm (by rw [e5]), PE.out⟩ | exact ⟨ret_pair e6.symm (by rw [e5]), PE.out.os, PE.out.tape, PE.out.output, PE.out.size, PE.out.block⟩)
       have hny2 := hid (none_next hny.out (fun _ => hm))
       have hne : ¬ (s.extract p k).toList = (partT i n).toList := fun h => hm (by
        have e := HEXT.out
        rw [← HST.out] at e
        have h2 : s.extract p k = partT i n := by
         rw [ByteArray.toList_eq, ByteArray.toList_eq] at h
         exact ByteArray.ext (Array.toList_inj.1 h)
        rw [h2] at e
        unfold partT at e
        rw [bytesL_byteL (part_bytes' hi hin)] at e
        exact e.symm)
       have hne2 : ((s.extract p k).toList == (partT i n).toList) = false := by rw [beq_eq_false_iff_ne]; exact hne
       generalize partT i n = PV at *
       clear h0 hin hm
       go_upto_region 7 with fail
       have g := Below.refl wr.heap.size wr
       go_region_held3 (fun _ => True) (trivial) (first | (go_at_call 68; (with_reducible refine (PC2.out _).mono ?_); (rintro e1 y ⟨rfl, k'⟩); (have g : Below wr.heap.size wr y := below_up (by first | exact g | exact ⟨g.os, g.tape, g.output, g.size, g.block⟩) k')))
       all_goals (
        have PE := hid (below_up hbw.out (show Below wr.heap.size wr _ by first | exact g | exact ⟨g.os, g.tape, g.output, g.size, g.block⟩))
        go_wp2_with fail
        go_roundw
        case rel => exact ⟨n + 1, by omega, by omega, by go_num, hny2, hid (by first | exact PE.out | exact ⟨PE.out.os, PE.out.tape, PE.out.output, PE.out.size, PE.out.block⟩)⟩
        case measure => simp [RowKit.intOf]; omega)
     have HNO := hid (none_all hny.out (show 3 < n by omega))
     have hn4 : ¬ n ≤ 3 := hn3
     go_wp2
     go_ret2
     have e1 := HNO.out
     have e3 := HLL.out
     have e4 := HP.out
     have e5 : s.size - (scanE i l).2.length = p := by rw [e1]; show s.size - l.length = p; omega
     have e6 : (scanE i l).1 = 0 := by rw [e1]
     exact ⟨ret_pair e6.symm (by rw [e5]), hbw.out⟩
   have hb : (((s[k]'hlt).toNat : Int) == 32) = false := by rw [beq_eq_false_iff_ne]; omega
   have hb2 : (((s[k]'hlt).toNat : Int) != 32) = true := by rw [bne_iff_ne]; omega
   have hst := tok_step (l := l) (k := k - p) hi2 hk3 (.inr (by rw [hv2]; exact h32))
   have HST := hid hst; have HKP := hid hk1
   clear hst hll htl hk3 hk1 hv hv2 e hi2 h32
   go_wp2
   go_round
   case rel => exact ⟨k + 1, by have := HKP.out; omega, by omega, by have := HST.out; omega, by go_num⟩
   case measure => simp [RowKit.intOf]; omega
 have hlt2 : ¬ (k : Int) < s.size := by omega
 have hst := tok_stop (l := l) (k := k - p) hk3 (.inl (by omega))
 have HST := hid (show k = p + (tokL l).length by omega)
 clear hst hll htl hk3 hk1
 skip
 go_wp2_with fail
 go_loopw [9] (fun v wr => ∃ n : Int, -3 ≤ n ∧ n ≤ 4 ∧ v = .int .i64 n ∧ Hid (NoneYet i l n) ∧ Hid (Below w.heap.size w wr)) (fun v _ => (4 - RowKit.intOf v).toNat)
 case atStart => exact ⟨-3, by omega, by omega, rfl, hid (none_first i l), hid (Below.refl _ _)⟩
 obtain ⟨n, hn1, hn2, rfl, hny, hbw⟩ := hrel
 have hkp : (p : Int) ≤ k := by have := HST.out; omega
 have hks : (k : Int) ≤ s.size := by omega
 by_cases hn3 : n ≤ 3
 · have hin : InE n := ⟨hn1, hn3⟩
   by_cases h0 : n = 0
   · subst h0
     have hny2 := hid (none_next hny.out (fun h => absurd rfl h))
     clear hin
     go_upto_region 7 with fail
     go_quiet ((fail))
     go_wp2_with fail
     go_roundw
     case rel => exact ⟨0 + 1, by omega, by omega, rfl, hny2, hid ⟨hbw.out.os, hbw.out.tape, hbw.out.output, hbw.out.size, hbw.out.block⟩⟩
     case measure => simp [RowKit.intOf]
   have hen : (n != 0) = true := by rw [bne_iff_ne]; exact h0
   have hen2 : (n == 0) = false := by rw [beq_eq_false_iff_ne]; exact h0
   have pc := fun W => PC.out n hin W
   have PC2 := hid pc
   clear pc
   by_cases hm : tokL l = partL i n
   · have HIT := hid (tok_hit hi hin h0 hm)
     have hx : s.extract p k = partT i n := by
      refine bytesL_inj ?_
      have e := HEXT.out
      rw [← HST.out] at e
      rw [e, hm]
      unfold partT
      rw [bytesL_byteL (part_bytes' hi hin)]
     generalize partT i n = PV at *
     clear h0 hin hm
     go_upto_region 7 with fail
     have g := Below.refl wr.heap.size wr
     go_region_held3 (fun _ => True) (trivial) (first | (go_at_call 68; (with_reducible refine (PC2.out _).mono ?_); (rintro e1 y ⟨rfl, k'⟩); (have g : Below wr.heap.size wr y := below_up (by first | exact g | exact ⟨g.os, g.tape, g.output, g.size, g.block⟩) k')))
     all_goals (
      have PE := hid (below_up hbw.out (show Below wr.heap.size wr _ by first | exact g | exact ⟨g.os, g.tape, g.output, g.size, g.block⟩))
      go_wp2
      go_ret2
      have e1 := HIT.out
      have e2 := HST.out
      have e3 := HLL.out
      have e4 := HP.out
      have e5 : s.size - (scanE i l).2.length = k := by rw [e1]; show s.size - (l.drop (tokL l).length).length = k; rw [List.length_drop]; omega
      have e6 : (scanE i l).1 = n := by rw [e1]
      first | exact ⟨ret_pair e6.symm (by rw [e5]), PE.out⟩ | exact ⟨ret_pair e6.symm (by rw [e5]), PE.out.os, PE.out.tape, PE.out.output, PE.out.size, PE.out.block⟩)
   have hny2 := hid (none_next hny.out (fun _ => hm))
   have hne : ¬ (s.extract p k).toList = (partT i n).toList := fun h => hm (by
    have e := HEXT.out
    rw [← HST.out] at e
    have h2 : s.extract p k = partT i n := by
     rw [ByteArray.toList_eq, ByteArray.toList_eq] at h
     exact ByteArray.ext (Array.toList_inj.1 h)
    rw [h2] at e
    unfold partT at e
    rw [bytesL_byteL (part_bytes' hi hin)] at e
    exact e.symm)
   have hne2 : ((s.extract p k).toList == (partT i n).toList) = false := by rw [beq_eq_false_iff_ne]; exact hne
   generalize partT i n = PV at *
   clear h0 hin hm
   go_upto_region 7 with fail
   have g := Below.refl wr.heap.size wr
   go_region_held3 (fun _ => True) (trivial) (first | (go_at_call 68; (with_reducible refine (PC2.out _).mono ?_); (rintro e1 y ⟨rfl, k'⟩); (have g : Below wr.heap.size wr y := below_up (by first | exact g | exact ⟨g.os, g.tape, g.output, g.size, g.block⟩) k')))
   all_goals (
    have PE := hid (below_up hbw.out (show Below wr.heap.size wr _ by first | exact g | exact ⟨g.os, g.tape, g.output, g.size, g.block⟩))
    go_wp2_with fail
    go_roundw
    case rel => exact ⟨n + 1, by omega, by omega, by go_num, hny2, hid (by first | exact PE.out | exact ⟨PE.out.os, PE.out.tape, PE.out.output, PE.out.size, PE.out.block⟩)⟩
    case measure => simp [RowKit.intOf]; omega)
 have HNO := hid (none_all hny.out (show 3 < n by omega))
 have hn4 : ¬ n ≤ 3 := hn3
 go_wp2
 go_ret2
 have e1 := HNO.out
 have e3 := HLL.out
 have e4 := HP.out
 have e5 : s.size - (scanE i l).2.length = p := by rw [e1]; show s.size - l.length = p; omega
 have e6 : (scanE i l).1 = 0 := by rw [e1]
 exact ⟨ret_pair e6.symm (by rw [e5]), hbw.out⟩
theorem drop_end (i : Nat) (s : ByteArray) (p : Nat) : (bytesL s).drop (endE i s p) = (scanE i ((bytesL s).drop p)).2 ∧ endE i s p ≤ s.size ∧ (endE i s p = s.size ↔ (scanE i ((bytesL s).drop p)).2 = []) := by
 obtain ⟨h1, _⟩ := scan_sound i ((bytesL s).drop p)
 unfold endE
 generalize (scanE i ((bytesL s).drop p)).2 = r at *
 generalize partL i (scanE i ((bytesL s).drop p)).1 = a at *
 have hl := bytesL_size s
 have e : (bytesL s).take p ++ a ++ r = bytesL s := by rw [List.append_assoc, h1]; exact List.take_append_drop p _
 have hlen : ((bytesL s).take p ++ a).length + r.length = s.size := by rw [← List.length_append, e, hl]
 refine ⟨?_, by omega, ?_⟩
 · have : s.size - r.length = ((bytesL s).take p ++ a).length := by omega
   rw [this]
   conv => lhs; arg 2; rw [← e]
   exact List.drop_left
 constructor
 · intro h
   have : r.length = 0 := by omega
   exact List.eq_nil_of_length_eq_zero this
 intro h
 rw [h]
 exact Nat.sub_zero _
theorem rat_far1 {W : World} {A B i : Nat} {v : Value} {n d : ByteArray} (hne : A ≠ B) (h : RatAt W B n d) : RatAt (W.setCell ⟨A, i, none⟩ v) B n d :=
 ⟨(World.cell?_setCell_other W ⟨A, i, none⟩ ⟨B, 0, none⟩ v (by intro e; injection e with e1 e2; exact hne e1)).trans h.1, (World.cell?_setCell_other W ⟨A, i, none⟩ ⟨B, 1, none⟩ v (by intro e; injection e with e1 e2; exact hne e1)).trans h.2.1, by simp [h.2.2.1], by simp [h.2.2.2]⟩
theorem rat_lt1 {W : World} {B : Nat} {n d : ByteArray} (h : RatAt W B n d) : B < W.heap.size := World.block_lt_of_cell? W ⟨B, 0, none⟩ h.1
theorem parseUR_any (s : ByteArray) (hs : s.size ≤ 1000000) (w : World) : Calls Tryz.prog 32 #[.string s] w fun e w' => e = .returned (.tuple #[.agg #[.string (zT (parUB s) (cutN (fracT s))), .string (zT (parUB s) (cutD (fracT s))), .int .i64 (zI (parUB s) (expT s).1), .int .i64 (zI (parUB s) (expT s).2.1), .int .i64 (zI (parUB s) (expT s).2.2.1), .int .i64 (zI (parUB s) (expT s).2.2.2.1)], .int .i64 (zE (parUB s))]) ∧ Below w.heap.size w w' := by
 obtain ⟨W0, hW0, b0, hcc⟩ := box_qty w ⟨#[]⟩ ⟨#[]⟩ 0 0 0 0
 have hfs := frac_size s
 have hps := par_size (fracT s)
 have hl0 := bytesL_size s
 have hhr := congrArg List.length (head_rest (bytesL s))
 rw [List.length_append, hl0] at hhr
 have cp := fun W => parseR4_any (fracT s) (by omega) W
 have hdh := drop_head s
 have hhe := head_extract s
 have hat := fun k (h : k < s.size) h' => bytesL_at s k h h'
 -- the four parts, one behind the other
 obtain ⟨d0, l0, z0⟩ := drop_end 0 s (headL (bytesL s)).length
 obtain ⟨d1, l1, z1'⟩ := drop_end 1 s (endE 0 s (headL (bytesL s)).length)
 obtain ⟨d2, l2, z2'⟩ := drop_end 2 s (endE 1 s (endE 0 s (headL (bytesL s)).length))
 obtain ⟨d3, l3, z3'⟩ := drop_end 3 s (endE 2 s (endE 1 s (endE 0 s (headL (bytesL s)).length)))
 rw [d0] at d1 z1'
 rw [d1] at d2 z2'
 rw [d2] at d3 z3'
 rw [hdh] at d0 d1 d2 d3 z3'
 have hb0 := fun W => begins_any 0 (by omega) ⟨#[117, 115]⟩ rfl (by decide) s hs (headL (bytesL s)).length (by omega) W
 have hb1 := fun W => begins_any 1 (by omega) ⟨#[98, 121, 116, 101]⟩ rfl (by decide) s hs (endE 0 s (headL (bytesL s)).length) l0 W
 have hb2 := fun W => begins_any 2 (by omega) ⟨#[99, 101, 110, 116]⟩ rfl (by decide) s hs (endE 1 s (endE 0 s (headL (bytesL s)).length)) l1 W
 have hb3 := fun W => begins_any 3 (by omega) ⟨#[111, 110, 101]⟩ rfl (by decide) s hs (endE 2 s (endE 1 s (endE 0 s (headL (bytesL s)).length))) l2 W
 rw [hdh] at hb0
 rw [d0] at hb1
 rw [d1] at hb2
 rw [d2] at hb3
 have hexp : expT s = readU (restL (bytesL s)) := rfl
 have hend : endE 3 s (endE 2 s (endE 1 s (endE 0 s (headL (bytesL s)).length))) = s.size ↔ (expT s).2.2.2.2 = [] := z3'
 have ht0 : (scanE 0 (restL (bytesL s))).1 = (expT s).1 := rfl
 have ht1 : (scanE 1 (scanE 0 (restL (bytesL s))).2).1 = (expT s).2.1 := rfl
 have ht2 : (scanE 2 (scanE 1 (scanE 0 (restL (bytesL s))).2).2).1 = (expT s).2.2.1 := rfl
 have ht3 : (scanE 3 (scanE 2 (scanE 1 (scanE 0 (restL (bytesL s))).2).2).2).1 = (expT s).2.2.2.1 := rfl
 rw [ht0] at hb0
 rw [ht1] at hb1
 rw [ht2] at hb2
 rw [ht3] at hb3
 have hpu : parUB s = (decide ((expT s).2.2.2.2 = []) && (decide (parE (fracT s) = 0) && okU (parN (fracT s)) (parD (fracT s)) (expT s).1 (expT s).2.1 (expT s).2.2.1 (expT s).2.2.2.1)) := by rw [par_ok]; rfl
 have hpo := par_out (fracT s) (parUB s) (fun h => by unfold parUB at h; simp only [Bool.and_eq_true] at h; exact h.2.1)
 rw [← hpo.1, ← hpo.2]
 have hrs := fun W => resultR_any (parN (fracT s)) (parD (fracT s)) (parE (fracT s)) (expT s).1 (expT s).2.1 (expT s).2.2.1 (expT s).2.2.2.1 (by omega) (by omega) W
 clear d0 d1 d2 d3 l0 l1 l2 z0 z1' z2' z3' hpo ht0 ht1 ht2 ht3 hexp hps
 generalize (decide (parE (fracT s) = 0) && okU (parN (fracT s)) (parD (fracT s)) (expT s).1 (expT s).2.1 (expT s).2.2.1 (expT s).2.2.2.1) = x at *
 generalize endE 3 s (endE 2 s (endE 1 s (endE 0 s (headL (bytesL s)).length))) = p3 at *
 generalize endE 2 s (endE 1 s (endE 0 s (headL (bytesL s)).length)) = p2 at *
 generalize endE 1 s (endE 0 s (headL (bytesL s)).length) = p1 at *
 generalize endE 0 s (headL (bytesL s)).length = p0 at *
 generalize (expT s).1 = t at *
 generalize (expT s).2.1 = b at *
 generalize (expT s).2.2.1 = m at *
 generalize (expT s).2.2.2.1 = c at *
 generalize (expT s).2.2.2.2 = rl at *
 generalize hK : (headL (bytesL s)).length = K at *
 generalize fracT s = f at *
 generalize parN f = VN at *
 generalize parD f = VD at *
 generalize parE f = VE at *
 generalize parUB s = pu at *
 have HPU := hid hpu; have HEND := hid hend; have HHE := hid hhe; have HAT := hid hat; have HK := hid hK; have HL0 := hid hl0
 have HW := hid hW0; have HB0 := hid b0; have HC := hid hcc; have CP := hid cp; have C0 := hid hb0; have C1 := hid hb1; have C2 := hid hb2; have C3 := hid hb3; have CR := hid hrs
 have HKS := hid (show K ≤ s.size by omega)
 have HTW := hid (show (headL (bytesL s)) = (bytesL s).takeWhile (· ≠ 32) from rfl)
 clear hpu hend hhe hat hK hl0 hW0 b0 hcc cp hb0 hb1 hb2 hb3 hrs hfs hhr hdh l3
 go_enter Tryz.func32, Tryz.ntmps32
 go_wp2_with (rw [HW.out])
 go_loop [4] (fun v => ∃ k : Nat, k ≤ K ∧ v = .int .i64 (k : Int)) (fun v => s.size - (RowKit.intOf v).toNat)
 case atStart => exact ⟨0, Nat.zero_le _, rfl⟩
 obtain ⟨k, hk1, rfl⟩ := hrel
 have hks := HKS.out
 by_cases hlt : k < s.size
 · have hlt2 : (k : Int) < s.size := by omega
   have hi2 : k < (bytesL s).length := by rw [HL0.out]; exact hlt
   have hv := HAT.out k hlt hi2
   by_cases h32 : (s[k]'hlt).toNat = 32
   · have hb : (((s[k]'hlt).toNat : Int) == 32) = true := by rw [h32]; rfl
     have hb2 : (((s[k]'hlt).toNat : Int) != 32) = false := by rw [h32]; rfl
     have hst := tw_stop (r := bytesL s) (k := k) (by rw [← HTW.out, HK.out]; exact hk1) (.inr ⟨hi2, by rw [hv]; exact h32⟩)
     obtain rfl : k = K := by rw [← HTW.out, HK.out] at hst; exact hst
     clear hst hv hi2 h32 hk1
     have hks := HKS.out
     have hsl : s.extract 0 k = f := HHE.out
     have HSL := hid hsl
     clear hsl
     go_upto_region 4 with fail
     have hsl := HSL.out
     have hk0 : (k : Int) ≤ s.size := by omega
     go_wp2_with fail
     refine (CP.out _).mono ?_
     rintro e1 z1 ⟨rfl, b1⟩
     have B1 := hid b1
     clear b1
     obtain ⟨z2, hz2, b2, f2⟩ := box_one z1 VN VD
     have V2 := hid hz2; have F2 := hid f2; have B2 := hid b2
     clear hz2 f2 b2
     obtain ⟨y0, hz3, b3, f3⟩ := box_unit z2 0 0 0 0
     have V3 := hid hz3; have F3 := hid f3; have B3 := hid b3
     clear hz3 f3 b3
     go_upto_region 5 with (rw [V2.out])
     go_upto_region 6 with fail
     rw [V3.out]
     have hrz := ((hcz_lt (HC.out W0 (Below.refl _ _))))
     have HRU := hid (show w.heap.size < z2.heap.size from Nat.lt_of_lt_of_le hrz (Below.size (below_up B1.out B2.out)))
     have HVU := hid (show z1.heap.size < z2.heap.size from rat_lt1 (F2.out z2 (Below.refl _ _)))
     have KU0 := hid (F3.out y0 (Below.refl _ _))
     have KV0 := hid (F2.out y0 B3.out)
     have KR0 := hid (HC.out y0 (below_up B1.out (below_up B2.out B3.out)))
     have PU0 := hid (below_up HB0.out (below_up B1.out (below_up B2.out B3.out)))
     clear hrz hsl hk0
     obtain ⟨⟨u0, u1, u2, u3⟩, ⟨u4, u5, u6, u7⟩⟩ := unit_facts KU0.out
     go_wp2_with fail
     refine (C0.out _).mono ?_
     rintro e1 x0 ⟨rfl, b1⟩
     have KX := hid (CellsAt.below KU0.out b1)
     have KV1' := hid (RatAt.below KV0.out b1)
     have KR1' := hid (CellsAt.below KR0.out b1)
     have PX := hid (below_up PU0.out b1)
     clear b1 u0 u1 u2 u3 u4 u5 u6 u7
     obtain ⟨⟨u0, u1, u2, u3⟩, ⟨u4, u5, u6, u7⟩⟩ := unit_facts KX.out
     obtain ⟨y1, hy⟩ : ∃ y, x0.setCell ⟨z2.heap.size, 0, none⟩ (.int .i64 t) = y := ⟨_, rfl⟩
     have KU1 := hid (show CellsAt y1 z2.heap.size [.int .i64 t, .int .i64 0, .int .i64 0, .int .i64 0] by rw [← hy]; exact KX.out.put 0 (.int .i64 t))
     have KV1 := hid (show RatAt y1 z1.heap.size VN VD by rw [← hy]; exact rat_far1 (Nat.ne_of_gt HVU.out) KV1'.out)
     have KR1 := hid (show CellsAt y1 w.heap.size [.string ⟨#[]⟩, .string ⟨#[]⟩, .int .i64 0, .int .i64 0, .int .i64 0, .int .i64 0] by rw [← hy]; exact KR1'.out.far (Nat.ne_of_gt HRU.out))
     have PU1 := hid (show Below w.heap.size w y1 by rw [← hy]; exact PX.out.setCell (p := ⟨z2.heap.size, 0, none⟩) (Nat.le_of_lt HRU.out) _)
     have HY := hid hy
     clear hy
     go_upto_region 7 with fail
     rw [HY.out]
     clear u0 u1 u2 u3 u4 u5 u6 u7 HY KX PX
     obtain ⟨⟨u0, u1, u2, u3⟩, ⟨u4, u5, u6, u7⟩⟩ := unit_facts KU1.out
     go_wp2_with fail
     refine (C1.out _).mono ?_
     rintro e1 x1 ⟨rfl, b1⟩
     have KX := hid (CellsAt.below KU1.out b1)
     have KV2' := hid (RatAt.below KV1.out b1)
     have KR2' := hid (CellsAt.below KR1.out b1)
     have PX := hid (below_up PU1.out b1)
     clear b1 u0 u1 u2 u3 u4 u5 u6 u7
     obtain ⟨⟨u0, u1, u2, u3⟩, ⟨u4, u5, u6, u7⟩⟩ := unit_facts KX.out
     obtain ⟨y2, hy⟩ : ∃ y, x1.setCell ⟨z2.heap.size, 1, none⟩ (.int .i64 b) = y := ⟨_, rfl⟩
     have KU2 := hid (show CellsAt y2 z2.heap.size [.int .i64 t, .int .i64 b, .int .i64 0, .int .i64 0] by rw [← hy]; exact KX.out.put 1 (.int .i64 b))
     have KV2 := hid (show RatAt y2 z1.heap.size VN VD by rw [← hy]; exact rat_far1 (Nat.ne_of_gt HVU.out) KV2'.out)
     have KR2 := hid (show CellsAt y2 w.heap.size [.string ⟨#[]⟩, .string ⟨#[]⟩, .int .i64 0, .int .i64 0, .int .i64 0, .int .i64 0] by rw [← hy]; exact KR2'.out.far (Nat.ne_of_gt HRU.out))
     have PU2 := hid (show Below w.heap.size w y2 by rw [← hy]; exact PX.out.setCell (p := ⟨z2.heap.size, 1, none⟩) (Nat.le_of_lt HRU.out) _)
     have HY := hid hy
     clear hy
     go_upto_region 8 with fail
     rw [HY.out]
     clear u0 u1 u2 u3 u4 u5 u6 u7 HY KX PX
     obtain ⟨⟨u0, u1, u2, u3⟩, ⟨u4, u5, u6, u7⟩⟩ := unit_facts KU2.out
     go_wp2_with fail
     refine (C2.out _).mono ?_
     rintro e1 x2 ⟨rfl, b1⟩
     have KX := hid (CellsAt.below KU2.out b1)
     have KV3' := hid (RatAt.below KV2.out b1)
     have KR3' := hid (CellsAt.below KR2.out b1)
     have PX := hid (below_up PU2.out b1)
     clear b1 u0 u1 u2 u3 u4 u5 u6 u7
     obtain ⟨⟨u0, u1, u2, u3⟩, ⟨u4, u5, u6, u7⟩⟩ := unit_facts KX.out
     obtain ⟨y3, hy⟩ : ∃ y, x2.setCell ⟨z2.heap.size, 2, none⟩ (.int .i64 m) = y := ⟨_, rfl⟩
     have KU3 := hid (show CellsAt y3 z2.heap.size [.int .i64 t, .int .i64 b, .int .i64 m, .int .i64 0] by rw [← hy]; exact KX.out.put 2 (.int .i64 m))
     have KV3 := hid (show RatAt y3 z1.heap.size VN VD by rw [← hy]; exact rat_far1 (Nat.ne_of_gt HVU.out) KV3'.out)
     have KR3 := hid (show CellsAt y3 w.heap.size [.string ⟨#[]⟩, .string ⟨#[]⟩, .int .i64 0, .int .i64 0, .int .i64 0, .int .i64 0] by rw [← hy]; exact KR3'.out.far (Nat.ne_of_gt HRU.out))
     have PU3 := hid (show Below w.heap.size w y3 by rw [← hy]; exact PX.out.setCell (p := ⟨z2.heap.size, 2, none⟩) (Nat.le_of_lt HRU.out) _)
     have HY := hid hy
     clear hy
     go_upto_region 9 with fail
     rw [HY.out]
     clear u0 u1 u2 u3 u4 u5 u6 u7 HY KX PX
     obtain ⟨⟨u0, u1, u2, u3⟩, ⟨u4, u5, u6, u7⟩⟩ := unit_facts KU3.out
     go_wp2_with fail
     refine (C3.out _).mono ?_
     rintro e1 x3 ⟨rfl, b1⟩
     have KX := hid (CellsAt.below KU3.out b1)
     have KV4' := hid (RatAt.below KV3.out b1)
     have KR4' := hid (CellsAt.below KR3.out b1)
     have PX := hid (below_up PU3.out b1)
     clear b1 u0 u1 u2 u3 u4 u5 u6 u7
     obtain ⟨⟨u0, u1, u2, u3⟩, ⟨u4, u5, u6, u7⟩⟩ := unit_facts KX.out
     obtain ⟨y4, hy⟩ : ∃ y, x3.setCell ⟨z2.heap.size, 3, none⟩ (.int .i64 c) = y := ⟨_, rfl⟩
     have KU4 := hid (show CellsAt y4 z2.heap.size [.int .i64 t, .int .i64 b, .int .i64 m, .int .i64 c] by rw [← hy]; exact KX.out.put 3 (.int .i64 c))
     have KV4 := hid (show RatAt y4 z1.heap.size VN VD by rw [← hy]; exact rat_far1 (Nat.ne_of_gt HVU.out) KV4'.out)
     have KR4 := hid (show CellsAt y4 w.heap.size [.string ⟨#[]⟩, .string ⟨#[]⟩, .int .i64 0, .int .i64 0, .int .i64 0, .int .i64 0] by rw [← hy]; exact KR4'.out.far (Nat.ne_of_gt HRU.out))
     have PU4 := hid (show Below w.heap.size w y4 by rw [← hy]; exact PX.out.setCell (p := ⟨z2.heap.size, 3, none⟩) (Nat.le_of_lt HRU.out) _)
     have HY := hid hy
     clear hy
     go_upto_region 10 with fail
     rw [HY.out]
     clear u0 u1 u2 u3 u4 u5 u6 u7 HY KX PX
     have hend := HEND.out
     have hpu := HPU.out
     by_cases he : p3 = s.size
     · have hr : rl = [] := hend.1 he
       rw [decide_eq_true hr, Bool.true_and] at hpu
       obtain rfl : pu = x := hpu
       have hen : ((p3 : Int) == s.size) = true := by rw [beq_iff_eq]; omega
       have hen2 : ((p3 : Int) != s.size) = false := by rw [he]; simp
       clear hr hend he
       obtain ⟨⟨u0, u1, u2, u3⟩, _⟩ := unit_facts KU4.out
       obtain ⟨v0, v1, _, _⟩ := KV4.out
       obtain ⟨RN, hrn⟩ : ∃ v, zT pu VN = v := ⟨_, rfl⟩
       obtain ⟨RD, hrd⟩ : ∃ v, zT pu VD = v := ⟨_, rfl⟩
       obtain ⟨R0, hr0⟩ : ∃ v, zI pu t = v := ⟨_, rfl⟩
       obtain ⟨R1, hr1⟩ : ∃ v, zI pu b = v := ⟨_, rfl⟩
       obtain ⟨R2, hr2⟩ : ∃ v, zI pu m = v := ⟨_, rfl⟩
       obtain ⟨R3, hr3⟩ : ∃ v, zI pu c = v := ⟨_, rfl⟩
       obtain ⟨RE, hre⟩ : ∃ v, zE pu = v := ⟨_, rfl⟩
       have cr := CR.out
       rw [hrn, hrd, hr0, hr1, hr2, hr3, hre] at cr
       have CR2 := hid cr
       have HRR := hid (And.intro hrn (And.intro hrd (And.intro hr0 (And.intro hr1 (And.intro hr2 (And.intro hr3 hre))))))
       clear cr hrn hrd hr0 hr1 hr2 hr3 hre
       go_wp2_with fail
       refine (CR2.out _).mono ?_
       rintro e1 z5 ⟨rfl, b5⟩
       obtain ⟨z6, hz6, b6, f6⟩ := box_qty z5 RN RD R0 R1 R2 R3
       have V6 := hid hz6; have F6 := hid f6
       have KR6 := hid (CellsAt.below KR4.out (below_up b5 b6))
       have P6 := hid (below_up PU4.out (below_up b5 b6))
       clear b5 b6 hz6 f6 u0 u1 u2 u3 v0 v1
       go_upto_region 13 with (rw [V6.out])
       obtain ⟨⟨s0, s1, s2, s3, s4, s5⟩, ⟨s6, s7, s8, s9, sa, sb⟩⟩ := qty_facts (F6.out z6 (Below.refl _ _))
       obtain ⟨y, hy⟩ : ∃ y, ((((((z6.setCell ⟨w.heap.size, 0, none⟩ (.string RN)).setCell ⟨w.heap.size, 1, none⟩ (.string RD)).setCell ⟨w.heap.size, 2, none⟩ (.int .i64 R0)).setCell ⟨w.heap.size, 3, none⟩ (.int .i64 R1)).setCell ⟨w.heap.size, 4, none⟩ (.int .i64 R2)).setCell ⟨w.heap.size, 5, none⟩ (.int .i64 R3)) = y := ⟨_, rfl⟩
       have KY := hid (show CellsAt y w.heap.size [.string RN, .string RD, .int .i64 R0, .int .i64 R1, .int .i64 R2, .int .i64 R3] by rw [← hy]; exact qty_put KR6.out _ _ _ _ _ _)
       have BY := hid (show Below w.heap.size w y by rw [← hy]; exact qty_below (Nat.le_refl _) P6.out _ _ _ _ _ _)
       have HY := hid hy
       clear hy
       obtain ⟨⟨k0, k1, k2, k3, k4, k5⟩, ⟨k6, k7, k8, k9, ka, kb⟩⟩ := qty_facts KR6.out
       go_wp2_with (rw [HY.out])
       obtain ⟨⟨r0, r1, r2, r3, r4, r5⟩, _⟩ := qty_facts KY.out
       obtain ⟨hrn, hrd, hr0, hr1, hr2, hr3, hre⟩ := HRR.out
       refine bodyPost_ret (v := .tuple #[.agg #[.string RN, .string RD, .int .i64 R0, .int .i64 R1, .int .i64 R2, .int .i64 R3], .int .i64 RE]) (by simp [results, Tryz.results32, go_sem, r0, r1, r2, r3, r4, r5]) rfl ⟨?_, BY.out⟩
       rw [hrn, hrd, hr0, hr1, hr2, hr3, hre]
     have hr : ¬ rl = [] := fun h => he (hend.2 h)
     rw [decide_eq_false hr, Bool.false_and] at hpu
     subst hpu
     have hen : ((p3 : Int) == s.size) = false := by rw [beq_eq_false_iff_ne]; omega
     have hen2 : ((p3 : Int) != s.size) = true := by rw [bne_iff_ne]; omega
     clear hr hend he
     obtain ⟨y, hy⟩ : ∃ y, ((((((y4.setCell ⟨w.heap.size, 0, none⟩ (.string ⟨#[]⟩)).setCell ⟨w.heap.size, 1, none⟩ (.string ⟨#[]⟩)).setCell ⟨w.heap.size, 2, none⟩ (.int .i64 0)).setCell ⟨w.heap.size, 3, none⟩ (.int .i64 0)).setCell ⟨w.heap.size, 4, none⟩ (.int .i64 0)).setCell ⟨w.heap.size, 5, none⟩ (.int .i64 0)) = y := ⟨_, rfl⟩
     have KY := hid (show CellsAt y w.heap.size [.string ⟨#[]⟩, .string ⟨#[]⟩, .int .i64 0, .int .i64 0, .int .i64 0, .int .i64 0] by rw [← hy]; exact qty_put KR4.out _ _ _ _ _ _)
     have BY := hid (show Below w.heap.size w y by rw [← hy]; exact qty_below (Nat.le_refl _) PU4.out _ _ _ _ _ _)
     have HY := hid hy
     clear hy
     obtain ⟨⟨k0, k1, k2, k3, k4, k5⟩, ⟨k6, k7, k8, k9, ka, kb⟩⟩ := qty_facts KR4.out
     go_wp2_with (rw [HY.out])
     obtain ⟨⟨r0, r1, r2, r3, r4, r5⟩, _⟩ := qty_facts KY.out
     exact bodyPost_ret (v := .tuple #[.agg #[.string ⟨#[]⟩, .string ⟨#[]⟩, .int .i64 0, .int .i64 0, .int .i64 0, .int .i64 0], .int .i64 50]) (by simp [results, Tryz.results32, go_sem, r0, r1, r2, r3, r4, r5]) rfl ⟨rfl, BY.out⟩
   have hb : (((s[k]'hlt).toNat : Int) == 32) = false := by rw [beq_eq_false_iff_ne]; omega
   have hb2 : (((s[k]'hlt).toNat : Int) != 32) = true := by rw [bne_iff_ne]; omega
   have hst := tw_step (r := bytesL s) (k := k) hi2 (by rw [← HTW.out, HK.out]; exact hk1) (by rw [hv]; exact h32)
   have HST := hid (show k + 1 ≤ K by rw [← HTW.out, HK.out] at hst; exact hst)
   clear hst hv hi2 h32
   go_wp2
   go_round
   case rel => exact ⟨k + 1, HST.out, by go_num⟩
   case measure => simp [RowKit.intOf]; omega
 have hlt2 : ¬ (k : Int) < s.size := by omega
 have hst := tw_stop (r := bytesL s) (k := k) (by rw [← HTW.out, HK.out]; exact hk1) (.inl (by rw [HL0.out]; omega))
 obtain rfl : k = K := by rw [← HTW.out, HK.out] at hst; exact hst
 clear hst hk1
 have hks := HKS.out
 have hsl : s.extract 0 k = f := HHE.out
 have HSL := hid hsl
 clear hsl
 go_upto_region 4 with fail
 have hsl := HSL.out
 have hk0 : (k : Int) ≤ s.size := by omega
 go_wp2_with fail
 refine (CP.out _).mono ?_
 rintro e1 z1 ⟨rfl, b1⟩
 have B1 := hid b1
 clear b1
 obtain ⟨z2, hz2, b2, f2⟩ := box_one z1 VN VD
 have V2 := hid hz2; have F2 := hid f2; have B2 := hid b2
 clear hz2 f2 b2
 obtain ⟨y0, hz3, b3, f3⟩ := box_unit z2 0 0 0 0
 have V3 := hid hz3; have F3 := hid f3; have B3 := hid b3
 clear hz3 f3 b3
 go_upto_region 5 with (rw [V2.out])
 go_upto_region 6 with fail
 rw [V3.out]
 have hrz := ((hcz_lt (HC.out W0 (Below.refl _ _))))
 have HRU := hid (show w.heap.size < z2.heap.size from Nat.lt_of_lt_of_le hrz (Below.size (below_up B1.out B2.out)))
 have HVU := hid (show z1.heap.size < z2.heap.size from rat_lt1 (F2.out z2 (Below.refl _ _)))
 have KU0 := hid (F3.out y0 (Below.refl _ _))
 have KV0 := hid (F2.out y0 B3.out)
 have KR0 := hid (HC.out y0 (below_up B1.out (below_up B2.out B3.out)))
 have PU0 := hid (below_up HB0.out (below_up B1.out (below_up B2.out B3.out)))
 clear hrz hsl hk0
 obtain ⟨⟨u0, u1, u2, u3⟩, ⟨u4, u5, u6, u7⟩⟩ := unit_facts KU0.out
 go_wp2_with fail
 refine (C0.out _).mono ?_
 rintro e1 x0 ⟨rfl, b1⟩
 have KX := hid (CellsAt.below KU0.out b1)
 have KV1' := hid (RatAt.below KV0.out b1)
 have KR1' := hid (CellsAt.below KR0.out b1)
 have PX := hid (below_up PU0.out b1)
 clear b1 u0 u1 u2 u3 u4 u5 u6 u7
 obtain ⟨⟨u0, u1, u2, u3⟩, ⟨u4, u5, u6, u7⟩⟩ := unit_facts KX.out
 obtain ⟨y1, hy⟩ : ∃ y, x0.setCell ⟨z2.heap.size, 0, none⟩ (.int .i64 t) = y := ⟨_, rfl⟩
 have KU1 := hid (show CellsAt y1 z2.heap.size [.int .i64 t, .int .i64 0, .int .i64 0, .int .i64 0] by rw [← hy]; exact KX.out.put 0 (.int .i64 t))
 have KV1 := hid (show RatAt y1 z1.heap.size VN VD by rw [← hy]; exact rat_far1 (Nat.ne_of_gt HVU.out) KV1'.out)
 have KR1 := hid (show CellsAt y1 w.heap.size [.string ⟨#[]⟩, .string ⟨#[]⟩, .int .i64 0, .int .i64 0, .int .i64 0, .int .i64 0] by rw [← hy]; exact KR1'.out.far (Nat.ne_of_gt HRU.out))
 have PU1 := hid (show Below w.heap.size w y1 by rw [← hy]; exact PX.out.setCell (p := ⟨z2.heap.size, 0, none⟩) (Nat.le_of_lt HRU.out) _)
 have HY := hid hy
 clear hy
 go_upto_region 7 with fail
 rw [HY.out]
 clear u0 u1 u2 u3 u4 u5 u6 u7 HY KX PX
 obtain ⟨⟨u0, u1, u2, u3⟩, ⟨u4, u5, u6, u7⟩⟩ := unit_facts KU1.out
 go_wp2_with fail
 refine (C1.out _).mono ?_
 rintro e1 x1 ⟨rfl, b1⟩
 have KX := hid (CellsAt.below KU1.out b1)
 have KV2' := hid (RatAt.below KV1.out b1)
 have KR2' := hid (CellsAt.below KR1.out b1)
 have PX := hid (below_up PU1.out b1)
 clear b1 u0 u1 u2 u3 u4 u5 u6 u7
 obtain ⟨⟨u0, u1, u2, u3⟩, ⟨u4, u5, u6, u7⟩⟩ := unit_facts KX.out
 obtain ⟨y2, hy⟩ : ∃ y, x1.setCell ⟨z2.heap.size, 1, none⟩ (.int .i64 b) = y := ⟨_, rfl⟩
 have KU2 := hid (show CellsAt y2 z2.heap.size [.int .i64 t, .int .i64 b, .int .i64 0, .int .i64 0] by rw [← hy]; exact KX.out.put 1 (.int .i64 b))
 have KV2 := hid (show RatAt y2 z1.heap.size VN VD by rw [← hy]; exact rat_far1 (Nat.ne_of_gt HVU.out) KV2'.out)
 have KR2 := hid (show CellsAt y2 w.heap.size [.string ⟨#[]⟩, .string ⟨#[]⟩, .int .i64 0, .int .i64 0, .int .i64 0, .int .i64 0] by rw [← hy]; exact KR2'.out.far (Nat.ne_of_gt HRU.out))
 have PU2 := hid (show Below w.heap.size w y2 by rw [← hy]; exact PX.out.setCell (p := ⟨z2.heap.size, 1, none⟩) (Nat.le_of_lt HRU.out) _)
 have HY := hid hy
 clear hy
 go_upto_region 8 with fail
 rw [HY.out]
 clear u0 u1 u2 u3 u4 u5 u6 u7 HY KX PX
 obtain ⟨⟨u0, u1, u2, u3⟩, ⟨u4, u5, u6, u7⟩⟩ := unit_facts KU2.out
 go_wp2_with fail
 refine (C2.out _).mono ?_
 rintro e1 x2 ⟨rfl, b1⟩
 have KX := hid (CellsAt.below KU2.out b1)
 have KV3' := hid (RatAt.below KV2.out b1)
 have KR3' := hid (CellsAt.below KR2.out b1)
 have PX := hid (below_up PU2.out b1)
 clear b1 u0 u1 u2 u3 u4 u5 u6 u7
 obtain ⟨⟨u0, u1, u2, u3⟩, ⟨u4, u5, u6, u7⟩⟩ := unit_facts KX.out
 obtain ⟨y3, hy⟩ : ∃ y, x2.setCell ⟨z2.heap.size, 2, none⟩ (.int .i64 m) = y := ⟨_, rfl⟩
 have KU3 := hid (show CellsAt y3 z2.heap.size [.int .i64 t, .int .i64 b, .int .i64 m, .int .i64 0] by rw [← hy]; exact KX.out.put 2 (.int .i64 m))
 have KV3 := hid (show RatAt y3 z1.heap.size VN VD by rw [← hy]; exact rat_far1 (Nat.ne_of_gt HVU.out) KV3'.out)
 have KR3 := hid (show CellsAt y3 w.heap.size [.string ⟨#[]⟩, .string ⟨#[]⟩, .int .i64 0, .int .i64 0, .int .i64 0, .int .i64 0] by rw [← hy]; exact KR3'.out.far (Nat.ne_of_gt HRU.out))
 have PU3 := hid (show Below w.heap.size w y3 by rw [← hy]; exact PX.out.setCell (p := ⟨z2.heap.size, 2, none⟩) (Nat.le_of_lt HRU.out) _)
 have HY := hid hy
 clear hy
 go_upto_region 9 with fail
 rw [HY.out]
 clear u0 u1 u2 u3 u4 u5 u6 u7 HY KX PX
 obtain ⟨⟨u0, u1, u2, u3⟩, ⟨u4, u5, u6, u7⟩⟩ := unit_facts KU3.out
 go_wp2_with fail
 refine (C3.out _).mono ?_
 rintro e1 x3 ⟨rfl, b1⟩
 have KX := hid (CellsAt.below KU3.out b1)
 have KV4' := hid (RatAt.below KV3.out b1)
 have KR4' := hid (CellsAt.below KR3.out b1)
 have PX := hid (below_up PU3.out b1)
 clear b1 u0 u1 u2 u3 u4 u5 u6 u7
 obtain ⟨⟨u0, u1, u2, u3⟩, ⟨u4, u5, u6, u7⟩⟩ := unit_facts KX.out
 obtain ⟨y4, hy⟩ : ∃ y, x3.setCell ⟨z2.heap.size, 3, none⟩ (.int .i64 c) = y := ⟨_, rfl⟩
 have KU4 := hid (show CellsAt y4 z2.heap.size [.int .i64 t, .int .i64 b, .int .i64 m, .int .i64 c] by rw [← hy]; exact KX.out.put 3 (.int .i64 c))
 have KV4 := hid (show RatAt y4 z1.heap.size VN VD by rw [← hy]; exact rat_far1 (Nat.ne_of_gt HVU.out) KV4'.out)
 have KR4 := hid (show CellsAt y4 w.heap.size [.string ⟨#[]⟩, .string ⟨#[]⟩, .int .i64 0, .int .i64 0, .int .i64 0, .int .i64 0] by rw [← hy]; exact KR4'.out.far (Nat.ne_of_gt HRU.out))
 have PU4 := hid (show Below w.heap.size w y4 by rw [← hy]; exact PX.out.setCell (p := ⟨z2.heap.size, 3, none⟩) (Nat.le_of_lt HRU.out) _)
 have HY := hid hy
 clear hy
 go_upto_region 10 with fail
 rw [HY.out]
 clear u0 u1 u2 u3 u4 u5 u6 u7 HY KX PX
 have hend := HEND.out
 have hpu := HPU.out
 by_cases he : p3 = s.size
 · have hr : rl = [] := hend.1 he
   rw [decide_eq_true hr, Bool.true_and] at hpu
   obtain rfl : pu = x := hpu
   have hen : ((p3 : Int) == s.size) = true := by rw [beq_iff_eq]; omega
   have hen2 : ((p3 : Int) != s.size) = false := by rw [he]; simp
   clear hr hend he
   obtain ⟨⟨u0, u1, u2, u3⟩, _⟩ := unit_facts KU4.out
   obtain ⟨v0, v1, _, _⟩ := KV4.out
   obtain ⟨RN, hrn⟩ : ∃ v, zT pu VN = v := ⟨_, rfl⟩
   obtain ⟨RD, hrd⟩ : ∃ v, zT pu VD = v := ⟨_, rfl⟩
   obtain ⟨R0, hr0⟩ : ∃ v, zI pu t = v := ⟨_, rfl⟩
   obtain ⟨R1, hr1⟩ : ∃ v, zI pu b = v := ⟨_, rfl⟩
   obtain ⟨R2, hr2⟩ : ∃ v, zI pu m = v := ⟨_, rfl⟩
   obtain ⟨R3, hr3⟩ : ∃ v, zI pu c = v := ⟨_, rfl⟩
   obtain ⟨RE, hre⟩ : ∃ v, zE pu = v := ⟨_, rfl⟩
   have cr := CR.out
   rw [hrn, hrd, hr0, hr1, hr2, hr3, hre] at cr
   have CR2 := hid cr
   have HRR := hid (And.intro hrn (And.intro hrd (And.intro hr0 (And.intro hr1 (And.intro hr2 (And.intro hr3 hre))))))
   clear cr hrn hrd hr0 hr1 hr2 hr3 hre
   go_wp2_with fail
   refine (CR2.out _).mono ?_
   rintro e1 z5 ⟨rfl, b5⟩
   obtain ⟨z6, hz6, b6, f6⟩ := box_qty z5 RN RD R0 R1 R2 R3
   have V6 := hid hz6; have F6 := hid f6
   have KR6 := hid (CellsAt.below KR4.out (below_up b5 b6))
   have P6 := hid (below_up PU4.out (below_up b5 b6))
   clear b5 b6 hz6 f6 u0 u1 u2 u3 v0 v1
   go_upto_region 13 with (rw [V6.out])
   obtain ⟨⟨s0, s1, s2, s3, s4, s5⟩, ⟨s6, s7, s8, s9, sa, sb⟩⟩ := qty_facts (F6.out z6 (Below.refl _ _))
   obtain ⟨y, hy⟩ : ∃ y, ((((((z6.setCell ⟨w.heap.size, 0, none⟩ (.string RN)).setCell ⟨w.heap.size, 1, none⟩ (.string RD)).setCell ⟨w.heap.size, 2, none⟩ (.int .i64 R0)).setCell ⟨w.heap.size, 3, none⟩ (.int .i64 R1)).setCell ⟨w.heap.size, 4, none⟩ (.int .i64 R2)).setCell ⟨w.heap.size, 5, none⟩ (.int .i64 R3)) = y := ⟨_, rfl⟩
   have KY := hid (show CellsAt y w.heap.size [.string RN, .string RD, .int .i64 R0, .int .i64 R1, .int .i64 R2, .int .i64 R3] by rw [← hy]; exact qty_put KR6.out _ _ _ _ _ _)
   have BY := hid (show Below w.heap.size w y by rw [← hy]; exact qty_below (Nat.le_refl _) P6.out _ _ _ _ _ _)
   have HY := hid hy
   clear hy
   obtain ⟨⟨k0, k1, k2, k3, k4, k5⟩, ⟨k6, k7, k8, k9, ka, kb⟩⟩ := qty_facts KR6.out
   go_wp2_with (rw [HY.out])
   obtain ⟨⟨r0, r1, r2, r3, r4, r5⟩, _⟩ := qty_facts KY.out
   obtain ⟨hrn, hrd, hr0, hr1, hr2, hr3, hre⟩ := HRR.out
   refine bodyPost_ret (v := .tuple #[.agg #[.string RN, .string RD, .int .i64 R0, .int .i64 R1, .int .i64 R2, .int .i64 R3], .int .i64 RE]) (by simp [results, Tryz.results32, go_sem, r0, r1, r2, r3, r4, r5]) rfl ⟨?_, BY.out⟩
   rw [hrn, hrd, hr0, hr1, hr2, hr3, hre]
 have hr : ¬ rl = [] := fun h => he (hend.2 h)
 rw [decide_eq_false hr, Bool.false_and] at hpu
 subst hpu
 have hen : ((p3 : Int) == s.size) = false := by rw [beq_eq_false_iff_ne]; omega
 have hen2 : ((p3 : Int) != s.size) = true := by rw [bne_iff_ne]; omega
 clear hr hend he
 obtain ⟨y, hy⟩ : ∃ y, ((((((y4.setCell ⟨w.heap.size, 0, none⟩ (.string ⟨#[]⟩)).setCell ⟨w.heap.size, 1, none⟩ (.string ⟨#[]⟩)).setCell ⟨w.heap.size, 2, none⟩ (.int .i64 0)).setCell ⟨w.heap.size, 3, none⟩ (.int .i64 0)).setCell ⟨w.heap.size, 4, none⟩ (.int .i64 0)).setCell ⟨w.heap.size, 5, none⟩ (.int .i64 0)) = y := ⟨_, rfl⟩
 have KY := hid (show CellsAt y w.heap.size [.string ⟨#[]⟩, .string ⟨#[]⟩, .int .i64 0, .int .i64 0, .int .i64 0, .int .i64 0] by rw [← hy]; exact qty_put KR4.out _ _ _ _ _ _)
 have BY := hid (show Below w.heap.size w y by rw [← hy]; exact qty_below (Nat.le_refl _) PU4.out _ _ _ _ _ _)
 have HY := hid hy
 clear hy
 obtain ⟨⟨k0, k1, k2, k3, k4, k5⟩, ⟨k6, k7, k8, k9, ka, kb⟩⟩ := qty_facts KR4.out
 go_wp2_with (rw [HY.out])
 obtain ⟨⟨r0, r1, r2, r3, r4, r5⟩, _⟩ := qty_facts KY.out
 exact bodyPost_ret (v := .tuple #[.agg #[.string ⟨#[]⟩, .string ⟨#[]⟩, .int .i64 0, .int .i64 0, .int .i64 0, .int .i64 0], .int .i64 50]) (by simp [results, Tryz.results32, go_sem, r0, r1, r2, r3, r4, r5]) rfl ⟨rfl, BY.out⟩
theorem eU_true : eU true = 0 := rfl
def ByteRow5 (W : World) (B : Nat) (y : List UInt8) : Prop :=
 ∀ j (h : j < y.length), W.cell? ⟨B, j, none⟩ = some (.int .u8 ((y[j].toNat : Nat) : Int)) ∧ W.frozen? ⟨B, j, none⟩ = false
theorem ByteRow5.set {W : World} {B : Nat} {y : List UInt8} (h : ByteRow5 W B y) (i : Nat) (v : UInt8) : ByteRow5 (W.setCell ⟨B, i, none⟩ (.int .u8 ((v.toNat : Nat) : Int))) B (y.set i v) := by
 intro j hj
 have hj2 : j < y.length := by simpa using hj
 refine ⟨?_, by rw [World.frozen?_setCell]; exact (h j hj2).2⟩
 by_cases e : i = j
 · subst e
   rw [World.cell?_setCell_same _ _ _ (h i hj2).1]
   simp
 rw [List.getElem_set_ne e]
 exact (World.cell?_setCell_other _ _ _ _ (fun e' => e (by injection e'))).trans (h j hj2).1
theorem ByteRow5.bytes {W : World} {B : Nat} {y : List UInt8} (h : ByteRow5 W B y) : Bytes W B 0 ⟨y.toArray⟩ := by
 intro i hi
 have hi2 : i < y.length := by
  have h9 : (⟨y.toArray⟩ : ByteArray).size = y.length := by show y.toArray.size = _; simp
  omega
 rw [Nat.zero_add, (h i hi2).1]
 rfl
theorem ByteRow5.made (w : World) (e : TypeId) (s : ByteArray) : ByteRow5 (bytesWorld w e s) w.heap.size s.data.toList := by
 intro j hj
 have hj2 : j < s.size := by simpa using hj
 refine ⟨?_, ?_⟩
 · rw [bytesWorld_cell w e s j hj2]
   simp [List.getD, hj2]
 have hsz : s.size ≤ (bytesCells w e s).size := by simp [bytesCells]
 have hne : ¬ (bytesCells w e s).size ≤ j := by omega
 simp [World.frozen?, bytesWorld_at_new, hne]
theorem ByteRow5.below {W W' : World} {B : Nat} {y : List UInt8} (hB : B < W.heap.size) (h : ByteRow5 W B y) (b : Below W.heap.size W W') : ByteRow5 W' B y := fun j hj =>
 ⟨(b.cell (p := ⟨B, j, none⟩) hB).trans (h j hj).1, (b.frozen (p := ⟨B, j, none⟩) hB).trans (h j hj).2⟩
theorem bytes_below5 (w : World) (e : TypeId) (s : ByteArray) : Below w.heap.size w (bytesWorld w e s) :=
 ⟨rfl, rfl, rfl, by rw [bytesWorld_size]; omega, fun k hk => bytesWorld_at_old w e s k hk⟩
theorem byte_of {n : Int} (h0 : 0 ≤ n) (h1 : n ≤ 255) : ∃ u : UInt8, n = ((u.toNat : Nat) : Int) := by
 refine ⟨UInt8.ofNat n.toNat, ?_⟩
 rw [UInt8.toNat_ofNat', Nat.mod_eq_of_lt (by omega)]
 omega
theorem conv5 (W : World) (B C : Nat) (y : List UInt8) (n : Nat) (hn : y.length = n) (h : ByteRow5 W B y) : (convert 44 9 (.slice (some ⟨B, 0, none⟩) n C)).run Tryz.prog W = .ok (.string ⟨y.toArray⟩) W := by
 have := run_convert_whole (P := Tryz.prog) W 44 5 9 Tryz.underlying44 Tryz.underlying5 Tryz.underlying9 B 0 ⟨y.toArray⟩ h.bytes C
 have h9 : (⟨y.toArray⟩ : ByteArray).size = n := by show y.toArray.size = _; simp [hn]
 rwa [h9] at this
theorem bytesOf_size (y : List UInt8) : (⟨y.toArray⟩ : ByteArray).size = y.length := by show y.toArray.size = _; simp
theorem list_size5 (s : ByteArray) : s.data.toList.length = s.size := by rw [Array.length_toList]; rfl
theorem strs_elem : Tryz.prog.underlying 45 = some (.slice (Tryz.prog.elem 45)) := by kernel_rfl
theorem strs_cells (w : World) : (Go.sizeOf (Tryz.prog.elem 45)).run Tryz.prog w = .ok 1 w := by kernel_rfl
theorem at_strs (g n k : Nat) (hk : k < n) (w : World) : (Instr.indexAt 45 (.slice (some ⟨g, 0, none⟩) n n) (.int .i64 (k : Int))).run Tryz.prog w = .ok (.pointer (some ⟨g, k, none⟩)) w := by
 rw [run_indexAt_slice w 45 _ _ _ _ _ strs_elem, if_pos (by omega)]
 simp [strs_cells, add_at, Result.andThen]
theorem rem5 (k n : Nat) (h : 0 < n) : ∃ j : Nat, j < n ∧ ((k : Int)).tmod (n : Int) = (j : Int) := by
 refine ⟨k % n, Nat.mod_lt _ h, ?_⟩
 rw [Int.tmod_eq_emod_of_nonneg (by omega)]
 omega
end Go.Proofs.YtcglcgphgahnpaaGreatDoor
