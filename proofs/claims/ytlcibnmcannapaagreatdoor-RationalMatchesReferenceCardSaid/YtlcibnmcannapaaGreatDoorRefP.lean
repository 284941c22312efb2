/-
  The contract of the reference's Parse.
-/
import Derived.Test.YtlcibnmcannapaaGreatDoorTextQ
import Derived.Test.YtlcibnmcannapaaGreatDoorCmpP
namespace Go.Proofs.YtlcibnmcannapaaGreatDoor
open Go Go.Proofs Go.RowKit Go.Lib

theorem ratAt_set {W : World} {A : Nat} {n d x y : ByteArray} (h : RatAt W A n d) : RatAt ((W.setCell ⟨A, 0, none⟩ (.string x)).setCell ⟨A, 1, none⟩ (.string y)) A x y := by
  obtain ⟨h1, h2, h3, h4⟩ := h
  have k0 := World.cell?_setCell_same W ⟨A, 0, none⟩ (.string x) h1
  have k1 := (World.cell?_setCell_other W ⟨A, 0, none⟩ ⟨A, 1, none⟩ (.string x) (by intro e; injection e with e1 e2; omega)).trans h2
  have l0 := (World.cell?_setCell_other (W.setCell ⟨A, 0, none⟩ (.string x)) ⟨A, 1, none⟩ ⟨A, 0, none⟩ (.string y) (by intro e; injection e with e1 e2; omega)).trans k0
  have l1 := World.cell?_setCell_same (W.setCell ⟨A, 0, none⟩ (.string x)) ⟨A, 1, none⟩ (.string y) k1
  exact ⟨l0, l1, by simp [h3], by simp [h4]⟩
theorem ratAt_other {W : World} {A B : Nat} {n d : ByteArray} {x y : Value} (hne : A ≠ B) (h : RatAt W B n d) : RatAt ((W.setCell ⟨A, 0, none⟩ x).setCell ⟨A, 1, none⟩ y) B n d := by
  obtain ⟨h1, h2, h3, h4⟩ := h
  have k0 := (World.cell?_setCell_other W ⟨A, 0, none⟩ ⟨B, 0, none⟩ x (by intro e; injection e with e1 e2; omega)).trans h1
  have k1 := (World.cell?_setCell_other W ⟨A, 0, none⟩ ⟨B, 1, none⟩ x (by intro e; injection e with e1 e2; omega)).trans h2
  have l0 := (World.cell?_setCell_other (W.setCell ⟨A, 0, none⟩ x) ⟨A, 1, none⟩ ⟨B, 0, none⟩ y (by intro e; injection e with e1 e2; omega)).trans k0
  have l1 := (World.cell?_setCell_other (W.setCell ⟨A, 0, none⟩ x) ⟨A, 1, none⟩ ⟨B, 1, none⟩ y (by intro e; injection e with e1 e2; omega)).trans k1
  exact ⟨l0, l1, by simp [h3], by simp [h4]⟩

set_option maxRecDepth 100000 in
set_option maxHeartbeats 8000000 in
theorem parseR4_any (s : ByteArray) (hs : s.size ≤ 1000000) (w : World) :
    Calls Tryz.prog 36 #[.string s] w fun e w' => e = .returned (.tuple #[.agg #[.string (parN s), .string (parD s)], .int .i64 (parE s)]) ∧ Below w.heap.size w w' := by
  obtain ⟨W1, hW1, b1, hcc⟩ := box_two w ⟨#[]⟩ ⟨#[]⟩ s ⟨#[49]⟩
  obtain ⟨ra, rb⟩ := hcc W1 (Below.refl _ _)
  have HW1 := Lib.hid hW1; have B1 := Lib.hid b1; have RA := Lib.hid ra; have RB := Lib.hid rb
  obtain ⟨O, hO⟩ : ∃ O, (.returned (.tuple #[.agg #[.string (parN s), .string (parD s)], .int .i64 (parE s)]) : Ending) = O := ⟨_, rfl⟩
  have HO := Lib.hid hO
  rw [hO]
  clear hW1 b1 ra rb hO hcc
  go_enter Tryz.func36, Tryz.ntmps36
  go_wp2_with fail
  rw [HW1.out]
  go_loopw [5] (fun i wr => ∃ k : Nat, k ≤ s.size ∧ i = .int .i64 (k : Int) ∧ Hid (∀ j (hj : j < s.size), j < k → (s[j]'hj).toNat ≠ 47) ∧ wr = W1) (fun i _ => s.size - (RowKit.intOf i).toNat)
  case atStart => exact ⟨0, Nat.zero_le _, rfl, fun _ _ h => by omega, rfl⟩
  case round =>
    obtain ⟨k, hk, rfl, hno, rfl⟩ := hrel
    by_cases hlt : k < s.size
    · have hki : (k : Int) < (s.size : Int) := by omega
      have hix := fun W => index_str s k hlt W
      obtain ⟨x, hx⟩ : ∃ x, (s[k]'hlt).toNat = x := ⟨_, rfl⟩
      rw [hx] at hix
      by_cases h47 : x = 47
      · have hsl := slash_here hlt (fun i hi h => hno.out i hi h) (by rw [hx, h47])
        have e1 : cutN s = s.extract 0 k := by unfold cutN; rw [hsl, if_pos hlt]
        have e2 : cutD s = s.extract (k + 1) s.size := by unfold cutD; rw [hsl, if_pos hlt]
        have l1 := cutN_size s
        have l2 := cutD_size s
        rw [e1] at l1
        rw [e2] at l2
        subst h47
        have s1 := fun W => slice_to s k (by omega) W
        have s2 := fun W => slice_behind s k (by omega) W
        have hw : IntKind.i64.wrap ((k : Int) + 1) = (k : Int) + 1 := IntWalk.i64_in _ (by omega)
        generalize s.extract 0 k = X at *
        generalize s.extract (k + 1) s.size = Y at *
        have HE := Lib.hid (show cutN s = X ∧ cutD s = Y from ⟨e1, e2⟩)
        have q1 := ratAt_set (x := X) (y := Y) RB.out
        have q2 := ratAt_other (x := .string X) (y := .string Y) (show w.heap.size + 1 ≠ w.heap.size by omega) RA.out
        have QB := Lib.hid ((B1.out.setCell (p := ⟨w.heap.size + 1, 0, none⟩) (Nat.le_succ _) (.string X)).setCell (p := ⟨w.heap.size + 1, 1, none⟩) (Nat.le_succ _) (.string Y))
        have Q1 := Lib.hid q1; have Q2 := Lib.hid q2
        clear e1 e2 hsl hx q1 q2 hno
        obtain ⟨xa, xb, xc, xd⟩ := RB.out
        go_wp2_with fail
        go_region
        have Q3 := Lib.hid (show RatAt (((wr.setCell ⟨w.heap.size + 1, 0, none⟩ (.string X)).setCell ⟨w.heap.size + 1, 1, none⟩ (.string Y)).drew) (w.heap.size + 1) X Y from Q1.out)
        have Q4 := Lib.hid (show RatAt (((wr.setCell ⟨w.heap.size + 1, 0, none⟩ (.string X)).setCell ⟨w.heap.size + 1, 1, none⟩ (.string Y)).drew) w.heap.size ⟨#[]⟩ ⟨#[]⟩ from Q2.out)
        have Q5 := Lib.hid (show Below w.heap.size w (((wr.setCell ⟨w.heap.size + 1, 0, none⟩ (.string X)).setCell ⟨w.heap.size + 1, 1, none⟩ (.string Y)).drew) from QB.out.drew)
        clear Q1 Q2 QB xa xb xc xd RA RB B1 hix s1 s2 hw hki hlt hk HW1
        generalize ((wr.setCell ⟨w.heap.size + 1, 0, none⟩ (.string X)).setCell ⟨w.heap.size + 1, 1, none⟩ (.string Y)).drew = W3 at *

        have va := fun W => validR4_any X Y (by omega) (by omega) W
        have cp := fun W => printR4_any X Y (by omega) (by omega) W
        have hpe : parseB s = (validQ X Y && decide (printB X Y = s)) := by unfold parseB; rw [HE.out.1, HE.out.2]
        have hps : ((printB X Y).toList == s.toList) = decide (printB X Y = s) := by rw [str_eq_iff]
        cases hv : validQ X Y with
        | false =>
          rw [hv] at va hpe
          have HB := Lib.hid (show O = .returned (.tuple #[.agg #[.string ⟨#[]⟩, .string ⟨#[]⟩], .int .i64 40]) by rw [← HO.out]; unfold parN parD parE; rw [hpe]; rfl)
          have VA := Lib.hid va
          clear va cp hpe hps hv HO HE l1 l2 hs
          obtain ⟨ya, yb, yc, yd⟩ := Q3.out
          obtain ⟨za, zb, zc, zd⟩ := Q4.out
          go_wp2_with fail
          refine (VA.out _).mono ?_
          rintro e w4 ⟨rfl, b4⟩
          have P4 := Lib.hid (below_up Q5.out b4)
          clear ya yb yc yd za zb zc zd
          obtain ⟨ya, yb, yc, yd⟩ := RatAt.below Q3.out b4
          obtain ⟨za, zb, zc, zd⟩ := RatAt.below Q4.out b4
          clear b4
          go_wp2_with fail
          exact bodyPost_ret (v := .tuple #[.agg #[.string ⟨#[]⟩, .string ⟨#[]⟩], .int .i64 40]) (by simp [results, Tryz.results36, go_sem, za, zb]) rfl ⟨HB.out.symm, (P4.out.setCell (p := ⟨w.heap.size, 0, none⟩) (Nat.le_refl _) _).setCell (p := ⟨w.heap.size, 1, none⟩) (Nat.le_refl _) _⟩
        | true =>
          rw [hv] at va hpe
          rw [Bool.true_and] at hpe
          generalize hP : printB X Y = Pt at *
          by_cases he : Pt = s
          · rw [decide_eq_true he] at hpe hps
            have HB := Lib.hid (show O = .returned (.tuple #[.agg #[.string X, .string Y], .int .i64 0]) by rw [← HO.out]; unfold parN parD parE; rw [hpe, if_pos rfl, if_pos rfl, if_pos rfl, HE.out.1, HE.out.2])
            have VA := Lib.hid va; have CP := Lib.hid cp
            clear va cp hpe hv HO HE l1 l2 hs he hP
            obtain ⟨ya, yb, yc, yd⟩ := Q3.out
            obtain ⟨za, zb, zc, zd⟩ := Q4.out
            go_wp2_with fail
            refine (VA.out _).mono ?_
            rintro e w4 ⟨rfl, b4⟩
            have P4 := Lib.hid (below_up Q5.out b4)
            have R4 := Lib.hid (RatAt.below Q3.out b4)
            have S4 := Lib.hid (RatAt.below Q4.out b4)
            clear ya yb yc yd za zb zc zd b4
            obtain ⟨ya, yb, yc, yd⟩ := R4.out
            obtain ⟨za, zb, zc, zd⟩ := S4.out
            go_wp2_with fail
            refine (CP.out _).mono ?_
            rintro e w5 ⟨rfl, b5⟩
            have P5 := Lib.hid (below_up P4.out b5)
            clear ya yb yc yd za zb zc zd
            obtain ⟨ya, yb, yc, yd⟩ := RatAt.below R4.out b5
            obtain ⟨za, zb, zc, zd⟩ := RatAt.below S4.out b5
            clear b5
            go_wp2_with fail
            exact bodyPost_ret (v := .tuple #[.agg #[.string X, .string Y], .int .i64 0]) (by simp [results, Tryz.results36, go_sem, za, zb]) rfl ⟨HB.out.symm, (P5.out.setCell (p := ⟨w.heap.size, 0, none⟩) (Nat.le_refl _) _).setCell (p := ⟨w.heap.size, 1, none⟩) (Nat.le_refl _) _⟩
          · rw [decide_eq_false he] at hpe hps
            have HB := Lib.hid (show O = .returned (.tuple #[.agg #[.string ⟨#[]⟩, .string ⟨#[]⟩], .int .i64 40]) by rw [← HO.out]; unfold parN parD parE; rw [hpe]; rfl)
            have VA := Lib.hid va; have CP := Lib.hid cp
            clear va cp hpe hv HO HE l1 l2 hs he hP
            obtain ⟨ya, yb, yc, yd⟩ := Q3.out
            obtain ⟨za, zb, zc, zd⟩ := Q4.out
            go_wp2_with fail
            refine (VA.out _).mono ?_
            rintro e w4 ⟨rfl, b4⟩
            have P4 := Lib.hid (below_up Q5.out b4)
            have R4 := Lib.hid (RatAt.below Q3.out b4)
            have S4 := Lib.hid (RatAt.below Q4.out b4)
            clear ya yb yc yd za zb zc zd b4
            obtain ⟨ya, yb, yc, yd⟩ := R4.out
            obtain ⟨za, zb, zc, zd⟩ := S4.out
            go_wp2_with fail
            refine (CP.out _).mono ?_
            rintro e w5 ⟨rfl, b5⟩
            have P5 := Lib.hid (below_up P4.out b5)
            clear ya yb yc yd za zb zc zd
            obtain ⟨ya, yb, yc, yd⟩ := RatAt.below R4.out b5
            obtain ⟨za, zb, zc, zd⟩ := RatAt.below S4.out b5
            clear b5
            go_wp2_with fail
            exact bodyPost_ret (v := .tuple #[.agg #[.string ⟨#[]⟩, .string ⟨#[]⟩], .int .i64 40]) (by simp [results, Tryz.results36, go_sem, za, zb]) rfl ⟨HB.out.symm, (P5.out.setCell (p := ⟨w.heap.size, 0, none⟩) (Nat.le_refl _) _).setCell (p := ⟨w.heap.size, 1, none⟩) (Nat.le_refl _) _⟩
      · have h47b : ((x : Int) == 47) = false := by rw [beq_eq_false_iff_ne]; omega
        have hn2 : ∀ j (hj : j < s.size), j < k + 1 → (s[j]'hj).toNat ≠ 47 := fun j hj h => by
          rcases Nat.lt_or_ge j k with h2 | h2
          · exact hno.out j hj h2
          · have : j = k := by omega
            subst this
            rw [hx]; exact h47
        have HN := Lib.hid hn2
        clear hn2 hno hx h47
        go_wp2_with fail
        go_roundw
        case rel => exact ⟨k + 1, by omega, by go_num, HN.out, trivial⟩
        case measure => simp [RowKit.intOf]; omega
    · have hki : ¬ (k : Int) < (s.size : Int) := by omega
      obtain rfl : k = s.size := by omega
      have hsl := no_slash (s := s) (fun i hi => hno.out i hi hi)
      have e1 : cutN s = s := by unfold cutN; rw [hsl, if_neg (by omega)]
      have e2 : cutD s = ⟨#[49]⟩ := by unfold cutD; rw [hsl, if_neg (by omega)]
      have HE := Lib.hid (show cutN s = s ∧ cutD s = ⟨#[49]⟩ from ⟨e1, e2⟩)
      have l1 : s.size ≤ 1000000 := hs
      have l2 : (⟨#[49]⟩ : ByteArray).size ≤ 1000000 := by show (1 : Nat) ≤ _; omega
      have Q3 := Lib.hid RB.out; have Q4 := Lib.hid RA.out; have Q5 := Lib.hid B1.out
      clear e1 e2 hsl hno RA RB B1 HW1 hlt hk
      have va := fun W => validR4_any s ⟨#[49]⟩ (by omega) (by omega) W
      have cp := fun W => printR4_any s ⟨#[49]⟩ (by omega) (by omega) W
      have hpe : parseB s = (validQ s ⟨#[49]⟩ && decide (printB s ⟨#[49]⟩ = s)) := by unfold parseB; rw [HE.out.1, HE.out.2]
      have hps : ((printB s ⟨#[49]⟩).toList == s.toList) = decide (printB s ⟨#[49]⟩ = s) := by rw [str_eq_iff]
      cases hv : validQ s ⟨#[49]⟩ with
      | false =>
        rw [hv] at va hpe
        have HB := Lib.hid (show O = .returned (.tuple #[.agg #[.string ⟨#[]⟩, .string ⟨#[]⟩], .int .i64 40]) by rw [← HO.out]; unfold parN parD parE; rw [hpe]; rfl)
        have VA := Lib.hid va
        clear va cp hpe hps hv HO HE l1 l2 hs
        obtain ⟨ya, yb, yc, yd⟩ := Q3.out
        obtain ⟨za, zb, zc, zd⟩ := Q4.out
        go_wp2_with fail
        refine (VA.out _).mono ?_
        rintro e w4 ⟨rfl, b4⟩
        have P4 := Lib.hid (below_up Q5.out b4)
        clear ya yb yc yd za zb zc zd
        obtain ⟨ya, yb, yc, yd⟩ := RatAt.below Q3.out b4
        obtain ⟨za, zb, zc, zd⟩ := RatAt.below Q4.out b4
        clear b4
        go_wp2_with fail
        exact bodyPost_ret (v := .tuple #[.agg #[.string ⟨#[]⟩, .string ⟨#[]⟩], .int .i64 40]) (by simp [results, Tryz.results36, go_sem, za, zb]) rfl ⟨HB.out.symm, (P4.out.setCell (p := ⟨w.heap.size, 0, none⟩) (Nat.le_refl _) _).setCell (p := ⟨w.heap.size, 1, none⟩) (Nat.le_refl _) _⟩
      | true =>
        rw [hv] at va hpe
        rw [Bool.true_and] at hpe
        generalize hP : printB s ⟨#[49]⟩ = Pt at *
        by_cases he : Pt = s
        · rw [decide_eq_true he] at hpe hps
          have HB := Lib.hid (show O = .returned (.tuple #[.agg #[.string s, .string ⟨#[49]⟩], .int .i64 0]) by rw [← HO.out]; unfold parN parD parE; rw [hpe, if_pos rfl, if_pos rfl, if_pos rfl, HE.out.1, HE.out.2])
          have VA := Lib.hid va; have CP := Lib.hid cp
          clear va cp hpe hv HO HE l1 l2 hs he hP
          obtain ⟨ya, yb, yc, yd⟩ := Q3.out
          obtain ⟨za, zb, zc, zd⟩ := Q4.out
          go_wp2_with fail
          refine (VA.out _).mono ?_
          rintro e w4 ⟨rfl, b4⟩
          have P4 := Lib.hid (below_up Q5.out b4)
          have R4 := Lib.hid (RatAt.below Q3.out b4)
          have S4 := Lib.hid (RatAt.below Q4.out b4)
          clear ya yb yc yd za zb zc zd b4
          obtain ⟨ya, yb, yc, yd⟩ := R4.out
          obtain ⟨za, zb, zc, zd⟩ := S4.out
          go_wp2_with fail
          refine (CP.out _).mono ?_
          rintro e w5 ⟨rfl, b5⟩
          have P5 := Lib.hid (below_up P4.out b5)
          clear ya yb yc yd za zb zc zd
          obtain ⟨ya, yb, yc, yd⟩ := RatAt.below R4.out b5
          obtain ⟨za, zb, zc, zd⟩ := RatAt.below S4.out b5
          clear b5
          go_wp2_with fail
          exact bodyPost_ret (v := .tuple #[.agg #[.string s, .string ⟨#[49]⟩], .int .i64 0]) (by simp [results, Tryz.results36, go_sem, za, zb]) rfl ⟨HB.out.symm, (P5.out.setCell (p := ⟨w.heap.size, 0, none⟩) (Nat.le_refl _) _).setCell (p := ⟨w.heap.size, 1, none⟩) (Nat.le_refl _) _⟩
        · rw [decide_eq_false he] at hpe hps
          have HB := Lib.hid (show O = .returned (.tuple #[.agg #[.string ⟨#[]⟩, .string ⟨#[]⟩], .int .i64 40]) by rw [← HO.out]; unfold parN parD parE; rw [hpe]; rfl)
          have VA := Lib.hid va; have CP := Lib.hid cp
          clear va cp hpe hv HO HE l1 l2 hs he hP
          obtain ⟨ya, yb, yc, yd⟩ := Q3.out
          obtain ⟨za, zb, zc, zd⟩ := Q4.out
          go_wp2_with fail
          refine (VA.out _).mono ?_
          rintro e w4 ⟨rfl, b4⟩
          have P4 := Lib.hid (below_up Q5.out b4)
          have R4 := Lib.hid (RatAt.below Q3.out b4)
          have S4 := Lib.hid (RatAt.below Q4.out b4)
          clear ya yb yc yd za zb zc zd b4
          obtain ⟨ya, yb, yc, yd⟩ := R4.out
          obtain ⟨za, zb, zc, zd⟩ := S4.out
          go_wp2_with fail
          refine (CP.out _).mono ?_
          rintro e w5 ⟨rfl, b5⟩
          have P5 := Lib.hid (below_up P4.out b5)
          clear ya yb yc yd za zb zc zd
          obtain ⟨ya, yb, yc, yd⟩ := RatAt.below R4.out b5
          obtain ⟨za, zb, zc, zd⟩ := RatAt.below S4.out b5
          clear b5
          go_wp2_with fail
          exact bodyPost_ret (v := .tuple #[.agg #[.string ⟨#[]⟩, .string ⟨#[]⟩], .int .i64 40]) (by simp [results, Tryz.results36, go_sem, za, zb]) rfl ⟨HB.out.symm, (P5.out.setCell (p := ⟨w.heap.size, 0, none⟩) (Nat.le_refl _) _).setCell (p := ⟨w.heap.size, 1, none⟩) (Nat.le_refl _) _⟩
end Go.Proofs.YtlcibnmcannapaaGreatDoor
