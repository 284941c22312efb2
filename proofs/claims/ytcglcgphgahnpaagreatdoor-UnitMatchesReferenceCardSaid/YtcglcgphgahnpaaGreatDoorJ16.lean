/-
  The contract of package integer's natural.divide.
-/
import Derived.Test.YtcglcgphgahnpaaGreatDoorJ15
import Derived.Stop.RegionWithIn
set_option maxRecDepth 100000
set_option maxHeartbeats 16000000
namespace Go.Proofs.YtcglcgphgahnpaaGreatDoor
open Go Go.Proofs Go.RowKit Go.Lib
attribute [local go_sem] Oper.semAt_some
def CutPost (A : Act) (I : World → Prop) : Exit → Act → World → Prop
 | .normal, a', w' => a' = A ∧ I w'
 | _, _, _ => False
theorem code_cut {F : Fence} {n : Nat} {P : Program} {c : Code} {Q : Exit → Act → World → Prop} {a : Act} {w : World} (A : Act) (I : World → Prop) (h : c.wpIn F n P (CutPost A I) a w) (hp : ∀ w', I w' → Q .normal A w') : c.wpIn F n P Q a w :=
 wpIn_mono h (fun e a' w' h => by
  cases e with
  | normal => obtain ⟨h2, h3⟩ := h; subst h2; exact hp w' h3
  | ret => exact h.elim
  | exit id => exact h.elim
  | goto t => exact h.elim
  | panic ch => exact h.elim
  | outgrown => exact h.elim)
def DivPost3 (w : World) (q r : Nat) (e : Ending) (w' : World) : Prop :=
 ∃ a1 c1 m1 a2 c2 m2, e = .returned (.tuple #[.slice a1 m1 c1, .slice a2 m2 c2]) ∧ NatAt w' a1 m1 c1 q ∧ NatAt w' a2 m2 c2 r ∧ Below w.heap.size w w'
theorem isI_kept {A B : World} {row : Option Nat} {g : Nat} {l : List Nat} (h : IsI A g l) (hg : A.grownBy B row) (hr : ∀ r, row = some r → ∃ o : Obj, A.heap[r]? = some o ∧ o.isCells = false) : IsI B g l := by
 have hlt : g < A.heap.size := (Array.getElem?_eq_some_iff.1 h).1
 exact (hg.block g hlt (fun e' => by obtain ⟨o, ho, hc⟩ := hr g e'.symm; rw [show A.heap[g]? = _ from h] at ho; cases ho; cases hc)).trans h
def Apart (ad : Option Addr) (m G : Nat) : Prop := m = 0 ∨ ∀ p, ad = some p → p.block ≠ G
theorem NatAt.store {W : World} {ad : Option Addr} {m c n : Nat} (h : NatAt W ad m c n) {G : Nat} (ha : Apart ad m G) (j : Nat) (v : Value) : NatAt (W.setCell ⟨G, j, none⟩ v) ad m c n := by
 obtain ⟨hm, h1, h2, h3⟩ := h
 refine ⟨hm, h1, h2, ?_⟩
 rcases ha with h0 | hne
 · left; exact List.eq_nil_of_length_eq_zero (by omega)
 refine h3.imp id ?_
 rintro ⟨g, o, rfl, hg, hn⟩
 exact ⟨g, o, rfl, by simpa using hg, hn.heq (Below.heap_setCell W ⟨G, j, none⟩ v g (hne _ rfl))⟩
def DivW (n0 x d count : Nat) (l : List Nat) (k : Nat) (W : World) : Prop :=
 ∃ Q rest ad m c, Boxed W (n0 + 3) 119 (.slice ad m c) ∧ NatAt W ad m c rest ∧ Apart ad m (n0 + 1) ∧ IsI W (n0 + 1) Q ∧ DivGInv x d count l Q rest (count - k)
theorem divW_own (n0 x d count : Nat) (l : List Nat) : Own (DivW n0 x d count l) := by
 rintro s A B row ⟨Q, rest, ad, m, c, hb, ⟨hm, hh⟩, ha, hi, hd⟩ hg hr
 exact ⟨Q, rest, ad, m, c, hb.kept hg (fun e => by obtain ⟨o, ho, hc⟩ := hr (n0 + 3) e.symm; rw [show A.heap[n0 + 3]? = _ from hb] at ho; cases ho; cases hc), ⟨hm, holdI_kept hh hg hr⟩, ha, isI_kept hi hg hr, hd⟩
theorem divide_in (n x d : Nat) (hd : 0 < d) (adx add : Option Addr) (cx cd nx nd : Nat) (w : World) (h1 : NatAt w adx nx cx x) (h2 : NatAt w add nd cd d) (hnx : nx ≤ 900) (hnd : nd ≤ 900) :
 CallsIn Fence.wide n Tryz.prog 139 #[.slice adx nx cx, .slice add nd cd] w (DivPost3 w (x / d) (x % d)) := by
 have hnd0 : 0 < nd := by rw [← h2.1, grps_pos (by omega)]; simp
 have hncx : nx ≤ cx := by have := h1.2.1; rw [h1.1] at this; exact this
 obtain ⟨e1, H1⟩ := h1
 have hg := grps_lt x
 have hc := grps_canonG x
 obtain ⟨l, hl⟩ : ∃ l, grps x = l := ⟨_, rfl⟩
 rw [hl] at H1 e1 hg hc
 obtain ⟨count, hcount⟩ : ∃ c, nx + 1 - nd = c := ⟨_, rfl⟩
 have hcl : count ≤ nx := by omega
 have hdiv0 := divG_start hl hd count (by rw [h2.1, e1]; exact hcount.symm)
 have hmax := fun w' => max2N w' #[3, 3] 3 0 ((nx : Int) - (nd : Int) + 1) (count : Int) (by omega)
 have hmk := fun W => make_nat count (by omega) W (count : Int) rfl
 obtain ⟨adr, hs1, hh1, hp1⟩ := sliceN_from adx nx cx count (count : Int) rfl hcl hncx
 have hs2 := fun w => sliceN_to adx nx cx count (count : Int) rfl (by omega) w
 obtain ⟨O, hO⟩ : ∃ O, List.replicate count 0 = O := ⟨_, rfl⟩
 rw [hO] at hmk hdiv0
 obtain ⟨W0, hW0⟩ : ∃ W0, ((((w.alloc (.cells #[.slice add nd cd] 119)).alloc (.cells (numVals .i64 O).toArray 3)).alloc (.cells #[.slice (some ⟨w.heap.size + 1, 0, none⟩) count count] 119)).alloc (.cells #[.slice adr (nx - count) (cx - count)] 119)).alloc (.cells #[.slice adx count cx] 119) = W0 := ⟨_, rfl⟩
 have hsz : W0.heap.size = w.heap.size + 5 := by rw [← hW0]; simp
 have hbel : Below w.heap.size w W0 := by
  rw [← hW0]
  exact (((((Below.refl _ _).alloc (Nat.le_refl _) _).alloc (by simp) _).alloc (by simp; omega) _).alloc (by simp; omega) _).alloc (by simp; omega) _
 have hb0 : Boxed W0 w.heap.size 119 (.slice add nd cd) := by rw [← hW0]; exact ((((Boxed.new w _ _).alloc _).alloc _).alloc _).alloc _
 have hi1 : IsI W0 (w.heap.size + 1) O := by
  rw [← hW0]
  have := isI_new (w.alloc (.cells #[.slice add nd cd] 119)) O
  rw [World.size_alloc] at this
  exact ((this.alloc _).alloc _).alloc _
 have hb2 : Boxed W0 (w.heap.size + 2) 119 (.slice (some ⟨w.heap.size + 1, 0, none⟩) count count) := by
  rw [← hW0]
  have := Boxed.new ((w.alloc (.cells #[.slice add nd cd] 119)).alloc (.cells (numVals .i64 O).toArray 3)) 119 (.slice (some ⟨w.heap.size + 1, 0, none⟩) count count)
  rw [World.size_alloc, World.size_alloc] at this
  exact (this.alloc _).alloc _
 have hb3 : Boxed W0 (w.heap.size + 3) 119 (.slice adr (nx - count) (cx - count)) := by
  rw [← hW0]
  have := Boxed.new (((w.alloc (.cells #[.slice add nd cd] 119)).alloc (.cells (numVals .i64 O).toArray 3)).alloc (.cells #[.slice (some ⟨w.heap.size + 1, 0, none⟩) count count] 119)) 119 (.slice adr (nx - count) (cx - count))
  rw [World.size_alloc, World.size_alloc, World.size_alloc] at this
  exact this.alloc _
 have hb4 : Boxed W0 (w.heap.size + 4) 119 (.slice adx count cx) := by
  rw [← hW0]
  have := Boxed.new ((((w.alloc (.cells #[.slice add nd cd] 119)).alloc (.cells (numVals .i64 O).toArray 3)).alloc (.cells #[.slice (some ⟨w.heap.size + 1, 0, none⟩) count count] 119)).alloc (.cells #[.slice adr (nx - count) (cx - count)] 119)) 119 (.slice adx count cx)
  rw [World.size_alloc, World.size_alloc, World.size_alloc, World.size_alloc] at this
  exact this
 have hH0 := H1.below hbel (Nat.le_refl _)
 have hrest : NatAt W0 adr (nx - count) (cx - count) (valG (l.drop count)) := by
  have := hh1 W0 l e1 hH0
  refine ⟨by rw [grps_drop hg hc, List.length_drop, e1], ?_⟩
  rw [grps_drop hg hc]; exact this
 have hap : Apart adr (nx - count) (w.heap.size + 1) := by
  by_cases h0 : nx - count = 0
  · exact .inl h0
  right
  obtain ⟨g, o, e, hlt, _⟩ := H1.at (by omega)
  have := hp1 (by omega) g o e
  rintro p hp
  rw [this] at hp
  cases hp
  show g ≠ _
  omega
 have hstart : DivW w.heap.size x d count l 0 W0 := ⟨O, _, adr, _, _, hb3, hrest, hap, hi1, by rw [Nat.sub_zero]; exact hdiv0⟩
 have hzs : (l.take count).length = count := by rw [List.length_take]; omega
 have hHz := H1.take count
 have hHz0 := hH0.take count
 have HW0 := hid hW0; have HB0 := hid hb0; have HB2 := hid hb2; have HB4 := hid hb4; have HBL := hid hbel; have HST := hid hstart; have HZ := hid hzs; have HHZ := hid hHz; have HHZ0 := hid hHz0; have HG := hid hg; have HD := hid h2; have HSZ := hid hsz
 clear hW0 hb0 hb2 hb3 hb4 hbel hstart hzs hHz hHz0 hH0 hrest hap hi1 hdiv0 H1 h2 hh1 hp1 hO hl hc hg hsz hcount
 refine callsIn_of_wp_marks Tryz.func139 rfl trivial ?_ rfl
 simp only [Tryz.ntmps139, List.size_toArray, List.length_cons, List.length_nil, Nat.reduceAdd, Nat.reduceSub, Array.replicate_succ, Array.replicate_zero, List.push_toArray, List.append_toArray, List.nil_append, List.cons_append]
 gi_wp2_with (refine ⟨trivial, (fun h => by cases h), ?_⟩; gi_at_call 156; refine (callsIn_wide.2 (backN_any _ _ _ _)).mono ?_; rintro e w' ⟨rfl, rfl⟩)
 rw [HW0.out]
 refine rangeFunc_nat (gf := 169) (lb := #[.pointer (some ⟨w.heap.size + 4, 0, none⟩)]) rfl (enters_of Tryz.func169 (by kernel_rfl) rfl)
  count (fun k => #[Value.int .i64 ((count - 1 - k : Nat) : Int), Value.int .i64 (((l.take count).getD (count - 1 - k) 0 : Nat) : Int)]) (fun _ => rfl) (fun j => j < w.heap.size ∨ j = w.heap.size + 4) (fun j hj => by have := HSZ.out; omega)
  ?seq (fun k W => (((DivW w.heap.size x d count l k W ∧ Boxed W w.heap.size 119 (.slice add nd cd)) ∧ Boxed W (w.heap.size + 2) 119 (.slice (some ⟨w.heap.size + 1, 0, none⟩) count count)) ∧ w.heap.size + 5 ≤ W.heap.size) ∧ Below w.heap.size w W)
  (fun _ _ => False) ?own (fun _ _ _ _ h _ _ => h) ⟨⟨⟨⟨HST.out, HB0.out⟩, HB2.out⟩, by have := HSZ.out; omega⟩, HBL.out⟩ ?round ?done (fun _ _ h _ => h.elim)
 case seq =>
  intro l' J Jx W hY hJ hold
  refine backN1_in (n - 1) l' (w.heap.size + 4) count cx (by omega) (l.take count) HZ.out adx _ (.inr rfl) ?_ J Jx hY W ((World.cell?_of_block (hold (w.heap.size + 4) (by have := HSZ.out; omega))).trans HB4.out.cell) ?_ hJ
  · rintro h0 g o rfl
    obtain ⟨g', o', e, hg, _⟩ := HHZ.out.at (by rw [HZ.out]; exact h0)
    cases e
    exact .inl hg
  exact HHZ0.out.same hold
 case own => exact OwnFrom.and (OwnFrom.and (OwnFrom.and (OwnFrom.and ((divW_own _ _ _ _ _).from _) ((boxed_own _ _ _).from _)) ((boxed_own _ _ _).from _)) (size_own _ _)) (ownFrom_below (Nat.le_refl _) (by have := HSZ.out; omega))
 case round =>
  rintro l' k W W2 hk ⟨⟨⟨⟨⟨Q, rest, ad, m, c, bx3, hna, hap, hiq, hdv⟩, bx0⟩, bx2⟩, hsw⟩, hbl⟩
  gi_wp2
  refine ⟨trivial, ?_⟩
  obtain ⟨m', hm'⟩ : ∃ m', count - 1 - k = m' := ⟨_, rfl⟩
  have hk1 : count - k = m' + 1 := by omega
  have hk2 : count - (k + 1) = m' := by omega
  have hml : m' < count := by omega
  rw [hm']
  rw [hk1] at hdv
  obtain ⟨g, hgd⟩ : ∃ g, l.getD m' 0 = g := ⟨_, rfl⟩
  rw [show (l.take count)[m']?.getD 0 = g by rw [List.getElem?_take_of_lt hml, ← List.getD_eq_getElem?_getD]; exact hgd]
  obtain ⟨hdv2, hq9⟩ := div_stepG HG.out hdv hml (by have := HZ.out; rw [List.length_take] at this; omega)
  have hg4 := getG_grp HG.out m'
  have hrd : rest < d := hdv.2.2.1
  have hQl : Q.length = count := hdv.1
  rw [hgd] at hdv2 hq9 hg4
  obtain ⟨x1, hx1⟩ : ∃ x1, g + 10000 * rest = x1 := ⟨_, rfl⟩
  rw [hx1] at hdv2 hq9
  obtain ⟨q, hq⟩ : ∃ q, x1 / d = q := ⟨_, rfl⟩
  obtain ⟨r, hr⟩ : ∃ r, x1 % d = r := ⟨_, rfl⟩
  rw [hq, hr] at hdv2
  rw [hq] at hq9
  have hx1d : x1 < d * 10000 := by omega
  have hqr : (x1 : Int) + (-(q : Int)) * (d : Int) = (r : Int) := by
   have := Nat.mod_add_div x1 d
   rw [hq, hr] at this
   have h2 : (x1 : Int) = (r : Int) + (d : Int) * (q : Int) := by rw [← this]; simp
   rw [h2, Int.neg_mul, Int.mul_comm (q : Int)]; omega
  have hmr : m ≤ 901 := by
   have h1 := hna.1
   have := grps_length_le nd rest (Nat.lt_trans hrd ((grps_length_iff nd d).1 (by rw [HD.out.1]; exact Nat.le_refl _)))
   omega
  have c1 := followed_new rest g hg4 ad c m W2 hna (by omega)
  rw [hx1] at c1
  have c0 := bx0.cell
  have c2 := bx2.cell
  have c3 := bx3.cell
  have f3 := bx3.frozen
  have C1 := hid c1; have BX0 := hid bx0; have BX2 := hid bx2; have BX3 := hid bx3; have HIQ := hid hiq; have HBW := hid hbl; have HDV := hid hdv2; have HQR := hid hqr; have HQ := hid hq; have HX1 := hid hx1d; have HRD := hid hrd; have HQL := hid hQl
  clear c1 bx0 bx2 bx3 hiq hbl hdv hdv2 hqr hq hr hx1 hx1d hgd hna hap hm' hrd hQl
  gi_wp2_with fail
  refine ⟨trivial, (fun h => by cases h), CallsIn.inRound l' ((callsIn_wide.2 C1.out).mono ?_)⟩
  rintro e w3 ⟨g3, o3, cap3, m3, rfl, hm3, hh3, hb3, hg3⟩
  have x0 : Boxed w3 w.heap.size 119 (.slice add nd cd) := (hb3.block _ BX0.out.lt).trans BX0.out
  have x2 : Boxed w3 (w.heap.size + 2) 119 (.slice (some ⟨w.heap.size + 1, 0, none⟩) count count) := (hb3.block _ BX2.out.lt).trans BX2.out
  have x3 : Boxed w3 (w.heap.size + 3) 119 (.slice ad m c) := (hb3.block _ BX3.out.lt).trans BX3.out
  have xq : IsI w3 (w.heap.size + 1) Q := (hb3.block _ (by omega)).trans HIQ.out
  have c33 := x3.cell
  have f33 := x3.frozen
  obtain ⟨w4, hw4⟩ : ∃ w4, w3.setCell ⟨w.heap.size + 3, 0, none⟩ (.slice (some ⟨g3, o3, none⟩) m3 cap3) = w4 := ⟨_, rfl⟩
  have y0 : Boxed w4 w.heap.size 119 (.slice add nd cd) := by rw [← hw4]; exact x0.other (by omega) _
  have y2 : Boxed w4 (w.heap.size + 2) 119 (.slice (some ⟨w.heap.size + 1, 0, none⟩) count count) := by rw [← hw4]; exact x2.other (by omega) _
  have y3 : Boxed w4 (w.heap.size + 3) 119 (.slice (some ⟨g3, o3, none⟩) m3 cap3) := by rw [← hw4]; exact x3.set _
  have yq : IsI w4 (w.heap.size + 1) Q := by rw [← hw4]; exact (Below.heap_setCell _ _ _ _ (by show w.heap.size + 1 ≠ w.heap.size + 3; omega)).trans xq
  have yn : NatAt w4 (some ⟨g3, o3, none⟩) m3 cap3 x1 := by rw [← hw4]; exact ⟨hm3, hh3.storeBox x3 _⟩
  have yb : Below w.heap.size w w4 := by rw [← hw4]; exact (below_of HBW.out (hb3.mono (Nat.le_refl _))).setCell (p := ⟨w.heap.size + 3, 0, none⟩) (by simp) _
  have yk : KeepsFrom W0.heap.size W2 w4 := by rw [← hw4]; exact (calls_keep hb3).trans ((KeepsOthers.setCell _ _ _).from _)
  have yj : ∀ j, j < W2.heap.size → j ≠ w.heap.size + 3 → w4.heap[j]? = W2.heap[j]? := by rw [← hw4]; exact fun j hj hne => (Below.heap_setCell _ _ _ _ hne).trans (hb3.block j hj)
  have ysz : W2.heap.size ≤ w4.heap.size := by rw [← hw4]; simpa using hb3.size
  have hm3b : m3 ≤ 901 := by
   have := grps_length_le (nd + 1) x1 (by
    have := (grps_length_iff nd d).1 (by rw [HD.out.1]; exact Nat.le_refl _)
    rw [Nat.pow_succ]
    have h1 := HX1.out
    generalize 10000 ^ nd = p at *
    omega)
   omega
  have c4 := fun W (b : Below w4.heap.size w4 W) => quot_any x1 d hd HX1.out (some ⟨g3, o3, none⟩) add cap3 cd m3 nd W (yn.below b (Nat.le_refl _)) (HD.out.below (yb.trans (b.mono yb.size)) (Nat.le_refl _)) (by omega)
  rw [HQ.out] at c4
  have k4 : ∀ W, Below w4.heap.size w4 W → W.cell? ⟨w.heap.size, 0, none⟩ = some (.slice add nd cd) ∧ W.cell? ⟨w.heap.size + 2, 0, none⟩ = some (.slice (some ⟨w.heap.size + 1, 0, none⟩) count count) ∧ W.cell? ⟨w.heap.size + 3, 0, none⟩ = some (.slice (some ⟨g3, o3, none⟩) m3 cap3) ∧ W.cell? ⟨w.heap.size + 1, m', none⟩ = some (.int .i64 ((Q.getD m' 0 : Nat) : Int)) ∧ W.frozen? ⟨w.heap.size + 1, m', none⟩ = false := by
   intro W b
   have z := (yq.below b (Array.getElem?_eq_some_iff.1 yq).1)
   exact ⟨(b.cell (p := ⟨w.heap.size, 0, none⟩) y0.lt).trans y0.cell, (b.cell (p := ⟨w.heap.size + 2, 0, none⟩) y2.lt).trans y2.cell, (b.cell (p := ⟨w.heap.size + 3, 0, none⟩) y3.lt).trans y3.cell, z.cell m' (by rw [HQL.out]; exact hml), z.frozen m'⟩
  have k0 := k4 w4 (Below.refl _ _)
  obtain ⟨k01, k02, k03, k04, k05⟩ := k0
  have j5 := fun w' => atN (w.heap.size + 1) 0 count count m' (m' : Int) rfl hml w'
  rw [Nat.zero_add] at j5
  have C4 := hid c4; have K4 := hid k4; have HW4 := hid hw4
  have YN := hid yn; have YB := hid yb; have YK := hid yk; have YJ := hid yj; have YSZ := hid ysz; have YQ := hid yq; have Y0 := hid y0; have Y2 := hid y2; have Y3 := hid y3
  clear c4 k4 hw4 yn yb yk yj ysz yq y0 y2 y3 x0 x2 x3 xq hm3 hh3 hb3 c0 c2 c3 f3
  gi_wp2_with fail
  rw [HW4.out]
  refine code_cut { tmps := #[.slice adx nx cx, .slice add nd cd, undef, .pointer (some ⟨w.heap.size, 0, none⟩), .slice none 0 0, .slice none 0 0, .int .i64 (count : Int), .pointer (some ⟨w.heap.size + 1 + 1, 0, none⟩), .pointer (some ⟨w.heap.size + 1 + 1 + 1, 0, none⟩), .int .i64 (m' : Int), .int .i64 (g : Int), .slice adx nx cx, .int .i64 (nx : Int), .slice add nd cd, .int .i64 (nd : Int), .int .i64 ((nx : Int) - (nd : Int)), .int .i64 ((nx : Int) - (nd : Int) + 1), .int .i64 (count : Int), .int .i64 (count : Int), .slice (some ⟨w.heap.size + 1, 0, none⟩) count count, .slice adx nx cx, .int .i64 (count : Int), .slice adr (nx - count) (cx - count), .slice adx nx cx, .int .i64 (count : Int), .slice adx count cx, .func (.func 169) #[] #[.pointer (some ⟨w.heap.size + 1 + 1 + 1 + 1, 0, none⟩)], .int .i64 (m' : Int), .int .i64 (g : Int), .slice ad m c, .int .i64 (g : Int), .slice (some ⟨g3, o3, none⟩) m3 cap3, .slice (some ⟨w.heap.size + 1, 0, none⟩) count count, .int .i64 (m' : Int), .slice (some ⟨g3, o3, none⟩) m3 cap3, .slice add nd cd, .int .i64 (q : Int), .pointer (some ⟨w.heap.size + 1, m', none⟩), undef, undef, undef, undef, undef, undef, undef, undef, undef, undef, undef], defers := [] } (fun w' => ∃ w5, w' = w5.setCell ⟨w.heap.size + 1, m', none⟩ (.int .i64 ((q : Nat) : Int)) ∧ Below w4.heap.size w4 w5) ?region ?post
  case region =>
   gi_region_with (first | (refine ⟨trivial, (fun h => by cases h), ?_⟩; gi_at_call 158; refine CallsIn.inRound l' ((callsIn_wide.2 (C4.out _ ?_)).mono ?_); exact ⟨rfl, rfl, rfl, Nat.le_refl _, fun _ _ => rfl⟩; rintro e w5 ⟨rfl, hb5'⟩; have hb5 : Below w4.heap.size w4 w5 := ⟨hb5'.os, hb5'.tape, hb5'.output, hb5'.size, hb5'.block⟩; obtain ⟨k51, k52, k53, k54, k55⟩ := K4.out w5 hb5))
   all_goals exact ⟨rfl, _, rfl, hb5⟩
  case post =>
   rintro w' ⟨w5, rfl, hb5⟩
   obtain ⟨w6, hw6⟩ : ∃ w6, w5.setCell ⟨w.heap.size + 1, m', none⟩ (.int .i64 ((q : Nat) : Int)) = w6 := ⟨_, rfl⟩
   have y0 : Boxed w5 w.heap.size 119 (.slice add nd cd) := (hb5.block _ Y0.out.lt).trans Y0.out
   have y2 : Boxed w5 (w.heap.size + 2) 119 (.slice (some ⟨w.heap.size + 1, 0, none⟩) count count) := (hb5.block _ Y2.out.lt).trans Y2.out
   have y3 : Boxed w5 (w.heap.size + 3) 119 (.slice (some ⟨g3, o3, none⟩) m3 cap3) := (hb5.block _ Y3.out.lt).trans Y3.out
   have z0 : Boxed w6 w.heap.size 119 (.slice add nd cd) := by rw [← hw6]; exact (Below.heap_setCell _ _ _ _ (by show w.heap.size ≠ w.heap.size + 1; omega)).trans y0
   have z2 : Boxed w6 (w.heap.size + 2) 119 (.slice (some ⟨w.heap.size + 1, 0, none⟩) count count) := by rw [← hw6]; exact (Below.heap_setCell _ _ _ _ (by show w.heap.size + 2 ≠ w.heap.size + 1; omega)).trans y2
   have z3 : Boxed w6 (w.heap.size + 3) 119 (.slice (some ⟨g3, o3, none⟩) m3 cap3) := by rw [← hw6]; exact (Below.heap_setCell _ _ _ _ (by show w.heap.size + 3 ≠ w.heap.size + 1; omega)).trans y3
   have zq : IsI w6 (w.heap.size + 1) (Q.set m' q) := by rw [← hw6]; exact (YQ.out.below hb5 (Array.getElem?_eq_some_iff.1 YQ.out).1).store m' q _ rfl
   have zn : NatAt w6 (some ⟨g3, o3, none⟩) m3 cap3 x1 := by
    rw [← hw6]
    refine (YN.out.below hb5 (Nat.le_refl _)).store (.inr ?_) _ _
    rintro p hp
    cases hp
    show g3 ≠ w.heap.size + 1
    omega
   have zb : Below w.heap.size w w6 := by rw [← hw6]; exact (YB.out.trans (hb5.mono YB.out.size)).setCell (p := ⟨w.heap.size + 1, m', none⟩) (by simp) _
   have zk : KeepsFrom W0.heap.size W2 w6 := by rw [← hw6]; exact YK.out.trans ((calls_keep hb5).trans ((KeepsOthers.setCell _ _ _).from _))
   have zj : ∀ j, j < W2.heap.size → j ≠ w.heap.size + 3 → j ≠ w.heap.size + 1 → w6.heap[j]? = W2.heap[j]? := by
    rw [← hw6]; exact fun j hj hne hn1 => (Below.heap_setCell _ _ _ _ hn1).trans ((hb5.block j (by have := YSZ.out; omega)).trans (YJ.out j hj hne))
   have zsz : W2.heap.size ≤ w6.heap.size := by rw [← hw6]; have := YSZ.out; have := hb5.size; simp; omega
   have c7 := fun W (b : Below w6.heap.size w6 W) => plus_new x1 d r (-(q : Int)) (by omega) (by omega) HQR.out (some ⟨g3, o3, none⟩) add cap3 cd m3 nd W (zn.below b (Nat.le_refl _)) (HD.out.below (zb.trans (b.mono zb.size)) (Nat.le_refl _)) (by omega) (by omega)
   have hQq : (Q.set m' q).getD m' 0 = q := by
    rw [List.getD_eq_getElem?_getD, List.getElem?_set_self (by rw [HQL.out]; exact hml)]; rfl
   have k6 : ∀ W, Below w6.heap.size w6 W → W.cell? ⟨w.heap.size, 0, none⟩ = some (.slice add nd cd) ∧ W.cell? ⟨w.heap.size + 2, 0, none⟩ = some (.slice (some ⟨w.heap.size + 1, 0, none⟩) count count) ∧ W.cell? ⟨w.heap.size + 3, 0, none⟩ = some (.slice (some ⟨g3, o3, none⟩) m3 cap3) ∧ W.frozen? ⟨w.heap.size + 3, 0, none⟩ = false ∧ W.cell? ⟨w.heap.size + 1, m', none⟩ = some (.int .i64 ((q : Nat) : Int)) := by
    intro W b
    have z := (zq.below b (Array.getElem?_eq_some_iff.1 zq).1).cell m' (by rw [List.length_set, HQL.out]; exact hml)
    rw [hQq] at z
    have z3' : Boxed W (w.heap.size + 3) 119 (.slice (some ⟨g3, o3, none⟩) m3 cap3) := (b.block _ z3.lt).trans z3
    exact ⟨(b.cell (p := ⟨w.heap.size, 0, none⟩) z0.lt).trans z0.cell, (b.cell (p := ⟨w.heap.size + 2, 0, none⟩) z2.lt).trans z2.cell, z3'.cell, z3'.frozen, z⟩
   obtain ⟨k61, k62, k63, k64, k65⟩ := k6 w6 (Below.refl _ _)
   have hwq : IntKind.i64.wrap (-(q : Int)) = -(q : Int) := IntWalk.i64_in _ (by omega)
   have C7 := hid c7; have K6 := hid k6; have HW6 := hid hw6
   have Z0 := hid z0; have Z2 := hid z2; have Z3 := hid z3; have ZQ := hid zq; have ZB := hid zb; have ZK := hid zk; have ZJ := hid zj; have ZSZ := hid zsz
   clear c7 k6 hw6 y0 y2 y3 z0 z2 z3 zq zn zb zk zj zsz hQq hb5 k01 k02 k03 k04 k05
   rw [HW6.out]
   gi_wp2_with fail
   gi_region_with (first | (refine ⟨trivial, (fun h => by cases h), ?_⟩; gi_at_call 140; refine CallsIn.inRound l' ((callsIn_wide.2 (C7.out _ ?_)).mono ?_); exact ⟨rfl, rfl, rfl, Nat.le_refl _, fun _ _ => rfl⟩; rintro e w7 ⟨g7, o7, cap7, m7, rfl, hm7, hh7, hb7', hg7⟩; have hb7 : Below w6.heap.size w6 w7 := ⟨hb7'.os, hb7'.tape, hb7'.output, hb7'.size, hb7'.block⟩; obtain ⟨k71, k72, k73, k74, k75⟩ := K6.out w7 hb7))
   all_goals (
    have x0 : Boxed w7 w.heap.size 119 (.slice add nd cd) := (hb7.block _ Z0.out.lt).trans Z0.out
    have x2 : Boxed w7 (w.heap.size + 2) 119 (.slice (some ⟨w.heap.size + 1, 0, none⟩) count count) := (hb7.block _ Z2.out.lt).trans Z2.out
    have x3 : Boxed w7 (w.heap.size + 3) 119 (.slice (some ⟨g3, o3, none⟩) m3 cap3) := (hb7.block _ Z3.out.lt).trans Z3.out
    refine ⟨ZK.out.trans ((calls_keep hb7).trans ((KeepsOthers.setCell _ _ _).from _)), ?_, ⟨⟨⟨⟨Q.set m' q, r, some ⟨g7, o7, none⟩, m7, cap7, x3.set _, ⟨hm7, hh7.storeBox x3 _⟩, .inr ?_, ?_, ?_⟩, x0.other (by omega) _⟩, x2.other (by omega) _⟩, ?_⟩, (ZB.out.trans (hb7.mono ZB.out.size)).setCell (p := ⟨w.heap.size + 3, 0, none⟩) (by simp) _⟩
    · intro j hj
      have hj1 : j < W2.heap.size := by rcases hj with h | h <;> omega
      refine (Below.heap_setCell _ _ _ _ (by show j ≠ w.heap.size + 3; rcases hj with h | h <;> omega)).trans ((hb7.block j (by have := ZSZ.out; omega)).trans (ZJ.out j hj1 ?_ ?_)) <;> (rcases hj with h | h <;> omega)
    · rintro p hp
      cases hp
      have hge : w6.heap.size ≤ g7 := hg7
      have := ZSZ.out
      show g7 ≠ w.heap.size + 1
      omega
    · exact (Below.heap_setCell _ _ _ _ (by show w.heap.size + 1 ≠ w.heap.size + 3; omega)).trans (ZQ.out.below hb7 (Array.getElem?_eq_some_iff.1 ZQ.out).1)
    · rw [hk2]; exact HDV.out
    have := ZSZ.out; have := hb7.size; simp; omega)
 case done =>
  rintro W ⟨⟨⟨⟨⟨Q, rest, ad, m, c, bx3, hna, hap, hiq, hdv⟩, bx0⟩, bx2⟩, hsw⟩, hbl⟩ hD
  rw [Nat.sub_self] at hdv
  obtain ⟨ht, hrr⟩ := divG_end hdv
  have hQl := hdv.1
  have hQg := hdv.2.1
  have hQh := hiq.held count hQl (by omega)
  have htk := hQh.take (trimG Q).length
  rw [← trimG_take count hQl hQg, ht] at htk
  have ct := fun (W' : World) (hh : W'.heap = W.heap) => trimmed_any3 Q hQg (some ⟨w.heap.size + 1, 0, none⟩) count W' (hQh.same (fun j _ => by rw [hh])) count hQl
  rw [ht] at ct
  obtain ⟨mq, hmq⟩ : ∃ mq, (grps (x / d)).length = mq := ⟨_, rfl⟩
  rw [hmq] at ct
  have c2 := bx2.cell
  have c3 := bx3.cell
  rw [hrr] at hna
  have CT := hid ct; have HTK := hid htk; have HNA := hid hna; have HMQ := hid hmq; have HD2 := hid hD; have HBW := hid hbl
  clear ct htk hna hmq hD hbl hdv ht hrr hQh hQl hQg bx0 bx2 bx3 hiq hap hsw
  dsimp only
  gi_wp2_with fail
  refine code_cut { tmps := #[.slice adx nx cx, .slice add nd cd, undef, .pointer (some ⟨w.heap.size, 0, none⟩), .slice (some ⟨w.heap.size + 1, 0, none⟩) mq count, .slice ad m c, .int .i64 (count : Int), .pointer (some ⟨w.heap.size + 1 + 1, 0, none⟩), .pointer (some ⟨w.heap.size + 1 + 1 + 1, 0, none⟩), undef, undef, .slice adx nx cx, .int .i64 (nx : Int), .slice add nd cd, .int .i64 (nd : Int), .int .i64 ((nx : Int) - (nd : Int)), .int .i64 ((nx : Int) - (nd : Int) + 1), .int .i64 (count : Int), .int .i64 (count : Int), .slice (some ⟨w.heap.size + 1, 0, none⟩) count count, .slice adx nx cx, .int .i64 (count : Int), .slice adr (nx - count) (cx - count), .slice adx nx cx, .int .i64 (count : Int), .slice adx count cx, .func (.func 169) #[] #[.pointer (some ⟨w.heap.size + 1 + 1 + 1 + 1, 0, none⟩)], undef, undef, undef, undef, undef, undef, undef, undef, undef, undef, undef, undef, undef, undef, undef, undef, undef, undef, undef, .slice (some ⟨w.heap.size + 1, 0, none⟩) count count, .slice (some ⟨w.heap.size + 1, 0, none⟩) mq count, .slice ad m c], defers := [{ target := .collected W0.heap.size, args := #[] }] } (fun w' => w'.heap = W.heap ∧ w'.os = W.os ∧ w'.tape = W.tape ∧ w'.output = W.output) ?region ?post
  case region =>
   gi_region_with (first | (refine ⟨trivial, (fun h => by cases h), ?_⟩; gi_at_call 155; refine (callsIn_wide.2 (CT.out _ ?_)).mono ?_; rfl; rintro e w5 ⟨rfl, rfl⟩))
   all_goals exact ⟨rfl, rfl, rfl, rfl, rfl⟩
  case post =>
   rintro w' ⟨hh, ho, htp, hop⟩
   have hD3 : w'.heap[W0.heap.size]? = some (.deferred (some [])) := by rw [hh]; exact HD2.out
   have hk := fun (l : List Nat) (a : Option Addr) (c : Nat) (h : HoldI W a c l) => holdI_kept (h.same (W := w') (fun j _ => by rw [hh])) (grownBy_putObj' w' W0.heap.size (.deferred none)) (fun r e => by cases e; exact ⟨_, hD3, rfl⟩)
   have hb3 : Below w.heap.size w w' := below_same HBW.out ho htp hop hh
   have HD3 := hid hD3; have HK := hid hk; have HB3 := hid hb3
   clear hD3 hk hb3 hh ho htp hop
   gi_wp2
   refine ⟨by simp, .inl ⟨_, _, rfl, run_takeDeferred HD3.out, ?_⟩⟩
   exact ⟨_, results_tmp2 rfl _ _ _, _, _, _, _, _, _, rfl, ⟨HMQ.out, HK.out _ _ _ HTK.out⟩, ⟨HNA.out.1, HK.out _ _ _ HNA.out.2⟩, below_collected HB3.out (by have := HSZ.out; omega) HD3.out _⟩
theorem divide_any (x d : Nat) (hd : 0 < d) (adx add : Option Addr) (cx cd nx nd : Nat) (w : World) (h1 : NatAt w adx nx cx x) (h2 : NatAt w add nd cd d) (hnx : nx ≤ 900) (hnd : nd ≤ 900) :
 Calls Tryz.prog 139 #[.slice adx nx cx, .slice add nd cd] w (DivPost3 w (x / d) (x % d)) :=
 callsIn_wide.1 (divide_in 0 x d hd adx add cx cd nx nd w h1 h2 hnx hnd)
end Go.Proofs.YtcglcgphgahnpaaGreatDoor
