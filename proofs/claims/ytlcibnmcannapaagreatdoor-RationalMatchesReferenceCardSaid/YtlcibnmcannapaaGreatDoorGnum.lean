/-
  The contracts of package integer's numbers.
  The contracts of package integer's numbers: products, sums, differences.
  The contracts of package integer's numbers: text, order.
  The contracts of package integer's numbers: quotients.
-/
import Derived.Test.YtlcibnmcannapaaGreatDoorGgcd
import Derived.Test.YtlcibnmcannapaaGreatDoorGof
namespace Go.Proofs.YtlcibnmcannapaaGreatDoor
open Go Go.Proofs Go.RowKit Go.Lib

theorem minus_textI (x : Int) : minusB (textI x) = decide (x < 0) ∧ behindB (textI x) = byteL (textN x.natAbs) := by
  by_cases hx : x < 0
  · have e : textI x = byteL (45 :: textN x.natAbs) := by unfold textI; rw [if_pos hx]; rfl
    have hl : bytesL (byteL (45 :: textN x.natAbs)) = 45 :: textN x.natAbs := by rw [← e, bytesL_textI, if_pos hx]; rfl
    have hm : minusB (textI x) = true := by unfold minusB; rw [e, hl]; rfl
    refine ⟨by rw [hm, decide_eq_true hx], ?_⟩
    rw [behind_true hm, e, extract_one]
  · have e : textI x = byteL (textN x.natAbs) := by unfold textI; rw [if_neg hx]; rfl
    have hl : bytesL (byteL (textN x.natAbs)) = textN x.natAbs := bytesL_byteL (textN_lt _)
    have hm : minusB (textI x) = false := by
      unfold minusB
      rw [e, hl, decide_eq_false_iff_not]
      intro h
      have hmem : 45 ∈ textN x.natAbs := by
        cases h2 : textN x.natAbs with
        | nil => rw [h2] at h; cases h
        | cons a l => rw [h2] at h; simp at h; subst h; simp
      have := textN_dig _ _ hmem
      omega
    refine ⟨by rw [hm, decide_eq_false hx], ?_⟩
    rw [behind_false hm, e]
theorem valid_behind {s : ByteArray} (h : validB s = true) : minusB s = decide (numB s < 0) ∧ behindB s = byteL (textN (numB s).natAbs) := by
  have e := text_valid h
  have := minus_textI (numB s)
  rw [← e.2] at this
  exact this

theorem bcell {W w1 : World} (hb : Below W.heap.size W w1) : (∀ b o, b < W.heap.size → w1.cell? ⟨b, o, none⟩ = W.cell? ⟨b, o, none⟩) ∧ (∀ b o, b < W.heap.size → w1.frozen? ⟨b, o, none⟩ = W.frozen? ⟨b, o, none⟩) :=
  ⟨fun b o h => hb.cell (p := ⟨b, o, none⟩) h, fun b o h => hb.frozen (p := ⟨b, o, none⟩) h⟩

theorem apart_num {W : World} {ad a' : Option Addr} {m c n m' c' B : Nat} {b : Bool} {t : TypeId} (h : NatAt W ad m c n) (hB : W.heap[B]? = some (.cells #[.bool b, .slice a' m' c'] t)) : Apart ad m B := by
  by_cases hm : m = 0
  · exact .inl hm
  · right
    rintro p rfl
    obtain ⟨e1, h2⟩ := h
    obtain ⟨g, o, e, hg, hs⟩ := h2.at (by omega)
    cases e
    show g ≠ B
    rintro rfl
    have h0 := hs 0 (by omega)
    rw [Nat.add_zero] at h0
    have hcell : ∀ o, W.cell? ⟨g, o, none⟩ = #[Value.bool b, Value.slice a' m' c'][o]? := fun o => by simp [World.cell?, hB]
    rw [hcell] at h0
    match o, h0 with
    | 0, h0 => simp at h0
    | 1, h0 => simp at h0
    | o + 2, h0 => simp at h0
theorem num_kept {w w2 : World} {b : Bool} {a' : Option Addr} {m' c' : Nat} {t : TypeId} {B : Nat} (hB : w.heap[B]? = some (.cells #[.bool b, .slice a' m' c'] t)) (hb : Below w.heap.size w w2) : w2.heap[B]? = some (.cells #[.bool b, .slice a' m' c'] t) :=
  (hb.block B (Array.getElem?_eq_some_iff.1 hB).1).trans hB

/-- A number is returned. -/
def NumPost (w : World) (x : Int) (e : Ending) (w' : World) : Prop :=
  ∃ neg N ad m cap, e = .returned (.agg #[.bool neg, .slice ad m cap]) ∧ intD neg N = x ∧ NatAt w' ad m cap N ∧ Below w.heap.size w w'
theorem num_cells {W : World} {B : Nat} {b : Bool} {a : Option Addr} {m c : Nat} {t : TypeId} (h : W.heap[B]? = some (.cells #[.bool b, .slice a m c] t)) :
    W.cell? ⟨B, 0, none⟩ = some (.bool b) ∧ W.cell? ⟨B, 1, none⟩ = some (.slice a m c) ∧ W.frozen? ⟨B, 0, none⟩ = false ∧ W.frozen? ⟨B, 1, none⟩ = false := by
  simp [World.cell?, World.frozen?, h]
theorem num_frame (w : World) (b1 b2 : Bool) (a1 a2 : Option Addr) (m1 m2 c1 c2 : Nat) : ∃ W0, ((w.alloc (.cells #[.bool b1, .slice a1 m1 c1] 90)).alloc (.cells #[.bool b2, .slice a2 m2 c2] 90)).alloc (.cells #[.bool false, .slice none 0 0] 90) = W0 ∧
    Below w.heap.size w W0 ∧ W0.heap[w.heap.size]? = some (.cells #[.bool b1, .slice a1 m1 c1] 90) ∧ W0.heap[w.heap.size + 1]? = some (.cells #[.bool b2, .slice a2 m2 c2] 90) ∧ W0.heap[w.heap.size + 2]? = some (.cells #[.bool false, .slice none 0 0] 90) := by
  refine ⟨_, rfl, (((Below.refl _ _).alloc (Nat.le_refl _) _).alloc (by simp) _).alloc (by simp; omega) _, ?_, ?_, ?_⟩
  · rw [Below.heap_alloc _ _ _ (by simp; omega), Below.heap_alloc _ _ _ (by simp)]
    exact heap_alloc_new _ _
  · rw [Below.heap_alloc _ _ _ (by simp)]
    have := heap_alloc_new (w.alloc (.cells #[.bool b1, .slice a1 m1 c1] 90)) (.cells #[.bool b2, .slice a2 m2 c2] 90)
    rw [World.size_alloc] at this
    exact this
  · have := heap_alloc_new ((w.alloc (.cells #[.bool b1, .slice a1 m1 c1] 90)).alloc (.cells #[.bool b2, .slice a2 m2 c2] 90)) (.cells #[.bool false, .slice none 0 0] 90)
    rw [World.size_alloc, World.size_alloc] at this
    exact this
theorem num_done {w W0 W : World} {R : Nat} {t : TypeId} (b0 : Below w.heap.size w W0) (hR : W0.heap[R]? = some (.cells #[.bool false, .slice none 0 0] t)) (hn : w.heap.size ≤ R) (b : Below W0.heap.size W0 W) {ad : Option Addr} {m c n : Nat} (h : NatAt W ad m c n) (x y : Value) :
    NatAt ((W.setCell ⟨R, 0, none⟩ x).setCell ⟨R, 1, none⟩ y) ad m c n ∧ Below w.heap.size w ((W.setCell ⟨R, 0, none⟩ x).setCell ⟨R, 1, none⟩ y) := by
  have ha := apart_num h (num_kept hR b)
  exact ⟨(h.store ha 0 _).store ha 1 _, ((below_of b0 b).setCell (p := ⟨R, 0, none⟩) hn _).setCell (p := ⟨R, 1, none⟩) hn _⟩

set_option maxRecDepth 100000 in
set_option maxHeartbeats 4000000 in
theorem numberOf_any (s : ByteArray) (hv : validB s = true) (w : World) :
    Calls Tryz.prog 77 #[.string s] w fun e w' => ∃ ad m cap, e = .returned (.agg #[.bool (decide (numB s < 0)), .slice ad m cap]) ∧ NatAt w' ad m cap (numB s).natAbs ∧ Below w.heap.size w w' := by
  obtain ⟨h1, h2⟩ := valid_behind hv
  have hfit := (text_valid hv).1
  have hs9 := fits_size hfit
  rw [← (text_valid hv).2] at hs9
  have hlb : bytesL (byteL (textN (numB s).natAbs)) = textN (numB s).natAbs := bytesL_byteL (textN_lt _)
  have cc := fun w => cut_any s (by omega) w
  rw [h1, h2] at cc
  have hlen : (byteL (textN (numB s).natAbs)).size ≤ 1000 := by
    have h3 : (textI (numB s)).size ≤ 1000 := fits_size hfit
    unfold textI at h3
    rw [byteL_size, List.length_append] at h3
    rw [byteL_size]
    omega
  have cn := fun W => naturalOf_any (byteL (textN (numB s).natAbs)) (by rw [hlb]; exact textN_dig _) hlen W
  rw [hlb, (textN_plain hfit).2] at cn
  obtain ⟨N, hN⟩ : ∃ N, (numB s).natAbs = N := ⟨_, rfl⟩
  obtain ⟨T, hT⟩ : ∃ T, byteL (textN N) = T := ⟨_, rfl⟩
  obtain ⟨B, hB⟩ : ∃ B, decide (numB s < 0) = B := ⟨_, rfl⟩
  rw [hN] at cn cc
  rw [hT] at cn cc
  rw [hB] at cc
  rw [hN, hB]
  have CC := Lib.hid cc; have CN := Lib.hid cn
  clear cc cn hlen hlb hs9 hfit h1 h2 hN hT hB
  go_enter Tryz.func77, Tryz.ntmps77
  go_wp2_with fail
  refine (CC.out _).mono ?_
  rintro e w1 ⟨rfl, rfl⟩
  go_wp2_with fail
  refine (CN.out _).mono ?_
  rintro e w2 ⟨ad, cap, m, rfl, hm, hh, hb⟩
  obtain ⟨hc, hf⟩ := bcell hb
  have hz : w.heap.size < w2.heap.size := by have := hb.size; simp at this; omega
  have HH := Lib.hid hh; have HB := Lib.hid hb
  clear hh hb
  go_wp2_with fail
  have hN2 := num_kept (B := w.heap.size) (heap_alloc_new w (.cells #[.bool false, .slice none 0 0] 90)) HB.out
  have hna : NatAt w2 ad m cap N := ⟨hm, HH.out⟩
  have hap := apart_num hna hN2
  refine bodyPost_ret (v := .agg #[.bool B, .slice ad m cap]) (by simp [results, Tryz.results77, go_sem, hc]) rfl ⟨ad, m, cap, rfl, (hna.store hap 0 _).store hap 1 _, ?_⟩
  exact ((((Below.refl _ w).alloc (Nat.le_refl _) _).trans (HB.out.mono (by simp))).setCell (p := ⟨w.heap.size, 0, none⟩) (Nat.le_refl _) _).setCell (p := ⟨w.heap.size, 1, none⟩) (Nat.le_refl _) _
end Go.Proofs.YtlcibnmcannapaaGreatDoor

namespace Go.Proofs.YtlcibnmcannapaaGreatDoor
open Go Go.Proofs Go.RowKit Go.Lib

set_option maxRecDepth 100000 in
set_option maxHeartbeats 8000000 in
theorem gcdN_any (b1 b2 : Bool) (N1 N2 : Nat) (a1 a2 : Option Addr) (m1 m2 c1 c2 : Nat) (w : World) (h1 : NatAt w a1 m1 c1 N1) (h2 : NatAt w a2 m2 c2 N2) (l1 : m1 ≤ 900) (l2 : m2 ≤ 900) (hR : Ready w) :
    Calls Tryz.prog 90 #[.agg #[.bool b1, .slice a1 m1 c1], .agg #[.bool b2, .slice a2 m2 c2]] w (NumPost w ((Nat.gcd N1 N2 : Nat) : Int)) := by
  obtain ⟨W0, hW0, hb0, k1, k2, kR⟩ := num_frame w b1 b2 a1 a2 m1 m2 c1 c2
  have cg := gcd_any3 N1 N2 a1 a2 c1 c2 m1 m2 W0 (h1.below hb0 (Nat.le_refl _)) (h2.below hb0 (Nat.le_refl _)) l1 l2 (hR.below hb0)
  obtain ⟨G, hG⟩ : ∃ G, Nat.gcd N1 N2 = G := ⟨_, rfl⟩
  rw [hG] at cg ⊢
  have CG := Lib.hid cg
  have hall := fun W (b : Below W0.heap.size W0 W) => And.intro (num_cells (num_kept k1 b)) (num_cells (num_kept k2 b))
  have HALL := Lib.hid hall
  have HW := Lib.hid hW0; have HB0 := Lib.hid hb0; have KR := Lib.hid kR
  obtain ⟨⟨p1, p2, _, _⟩, ⟨p3, p4, _, _⟩⟩ := hall W0 (Below.refl _ _)
  clear cg hb0 k1 k2 kR h1 h2 hG hW0 hall
  go_enter Tryz.func90, Tryz.ntmps90
  go_wp2_with (rw [HW.out])
  refine CG.out.mono ?_
  rintro e w5 ⟨ad, cap, m, rfl, hm, hh, hb⟩
  obtain ⟨q1, q2, q3, q4⟩ := num_cells (num_kept KR.out hb)
  have HN := Lib.hid (show NatAt w5 ad m cap _ from ⟨hm, hh⟩); have HB := Lib.hid hb
  clear hm hh hb
  clear CG
  go_wp2_with fail
  obtain ⟨d1, d2⟩ := num_done HB0.out KR.out (by omega) HB.out HN.out (.bool false) (.slice ad m cap)
  exact bodyPost_ret (v := .agg #[.bool false, .slice ad m cap]) (by simp [results, Tryz.results90, go_sem, q1, q2]) rfl ⟨false, G, ad, m, cap, rfl, rfl, d1, d2⟩
set_option maxRecDepth 100000 in
set_option maxHeartbeats 8000000 in
theorem timesN_any (b1 b2 : Bool) (N1 N2 : Nat) (a1 a2 : Option Addr) (m1 m2 c1 c2 : Nat) (w : World) (h1 : NatAt w a1 m1 c1 N1) (h2 : NatAt w a2 m2 c2 N2) (l1 : m1 + m2 ≤ 900) :
    Calls Tryz.prog 117 #[.agg #[.bool b1, .slice a1 m1 c1], .agg #[.bool b2, .slice a2 m2 c2]] w (NumPost w (intD b1 N1 * intD b2 N2)) := by
  obtain ⟨W0, hW0, hb0, k1, k2, kR⟩ := num_frame w b1 b2 a1 a2 m1 m2 c1 c2
  have cg := fun W (b : Below W0.heap.size W0 W) => times_any3 N1 N2 a1 a2 c1 c2 m1 m2 W ((h1.below hb0 (Nat.le_refl _)).below b (Nat.le_refl _)) ((h2.below hb0 (Nat.le_refl _)).below b (Nat.le_refl _)) l1
  have he := intD_mul b1 b2 N1 N2
  obtain ⟨G, hG⟩ : ∃ G, N1 * N2 = G := ⟨_, rfl⟩
  rw [hG] at cg he
  rw [← he]
  have CG := Lib.hid cg
  have hall := fun W (b : Below W0.heap.size W0 W) => And.intro (num_cells (num_kept k1 b)) (num_cells (num_kept k2 b))
  have HALL := Lib.hid hall
  have HW := Lib.hid hW0; have HB0 := Lib.hid hb0; have KR := Lib.hid kR
  obtain ⟨⟨p1, p2, _, _⟩, ⟨p3, p4, _, _⟩⟩ := hall W0 (Below.refl _ _)
  have HC4 := Lib.hid (fun W b => show (W.cell? ⟨w.heap.size, 0, none⟩ = some (.bool b1) ∧ W.cell? ⟨w.heap.size, 1, none⟩ = some (.slice a1 m1 c1)) ∧ (W.cell? ⟨w.heap.size + 1, 0, none⟩ = some (.bool b2) ∧ W.cell? ⟨w.heap.size + 1, 1, none⟩ = some (.slice a2 m2 c2)) from ⟨⟨(HALL.out W b).1.1, (HALL.out W b).1.2.1⟩, ⟨(HALL.out W b).2.1, (HALL.out W b).2.2.1⟩⟩)
  clear cg hb0 k1 k2 kR h1 h2 hG hW0 hall p1 p2 p3 p4 he
  go_enter Tryz.func117, Tryz.ntmps117
  go_wp2_with fail
  rw [HW.out]
  go_region_held3 (fun W => (W.cell? ⟨w.heap.size, 0, none⟩ = some (.bool b1) ∧ W.cell? ⟨w.heap.size, 1, none⟩ = some (.slice a1 m1 c1)) ∧ (W.cell? ⟨w.heap.size + 1, 0, none⟩ = some (.bool b2) ∧ W.cell? ⟨w.heap.size + 1, 1, none⟩ = some (.slice a2 m2 c2)))
    (first | exact HC4.out _ ⟨rfl, rfl, rfl, Nat.le_refl _, fun _ _ => rfl⟩ | exact HC4.out _ hb | (obtain ⟨⟨e1, e2⟩, ⟨e3, e4⟩⟩ := HC4.out _ hb; simp [go_sem, e1, e2, e3, e4]))
    ((go_at_call 138; (with_reducible refine (CG.out _ ?_).mono ?_); exact ⟨rfl, rfl, rfl, Nat.le_refl _, fun _ _ => rfl⟩; (rintro e w5 ⟨ad, cap, m, rfl, hm, hh, hb'⟩); have hb : Below W0.heap.size W0 w5 := ⟨hb'.os, hb'.tape, hb'.output, hb'.size, hb'.block⟩; obtain ⟨q1, q2, q3, q4⟩ := num_cells (num_kept KR.out hb)))
  all_goals (
    obtain ⟨q1, q2, q3, q4⟩ := num_cells (num_kept KR.out hb)
    have HN := Lib.hid (show NatAt w5 ad m cap _ from ⟨hm, hh⟩); have HB := Lib.hid hb
    clear hm hh hb
    go_wp2
    obtain ⟨d1, d2⟩ := num_done HB0.out KR.out (by omega) HB.out HN.out (.bool (b1 != b2)) (.slice ad m cap)
    exact bodyPost_ret (v := .agg #[.bool (b1 != b2), .slice ad m cap]) (by simp [results, Tryz.results117, go_sem, q1, q2]; cases b1 <;> cases b2 <;> rfl) rfl ⟨(b1 != b2), G, ad, m, cap, rfl, rfl, d1, d2⟩)
set_option maxRecDepth 100000 in
set_option maxHeartbeats 8000000 in
theorem plus_PP (N1 N2 : Nat) (a1 a2 : Option Addr) (m1 m2 c1 c2 : Nat) (w : World) (h1 : NatAt w a1 m1 c1 N1) (h2 : NatAt w a2 m2 c2 N2) (l1 : m1 ≤ 900) (l2 : m2 ≤ 900) :
    Calls Tryz.prog 97 #[.agg #[.bool false, .slice a1 m1 c1], .agg #[.bool false, .slice a2 m2 c2]] w (NumPost w (intD false N1 + intD false N2)) := by
  obtain ⟨W0, hW0, hb0, k1, k2, kR⟩ := num_frame w false false a1 a2 m1 m2 c1 c2
  have cg := fun W (b : Below W0.heap.size W0 W) => plus_any3 N1 N2 (N1 + N2) (1) (by omega) (by omega) (by omega) a1 a2 c1 c2 m1 m2 W ((h1.below hb0 (Nat.le_refl _)).below b (Nat.le_refl _)) ((h2.below hb0 (Nat.le_refl _)).below b (Nat.le_refl _)) (by omega) (by omega)
  have he : intD false (N1 + N2) = intD false N1 + intD false N2 := by simp [intD] <;> omega
  obtain ⟨G, hG⟩ : ∃ G, N1 + N2 = G := ⟨_, rfl⟩
  rw [hG] at cg he
  rw [← he]
  have CG := Lib.hid cg
  have hall := fun W (b : Below W0.heap.size W0 W) => And.intro (num_cells (num_kept k1 b)) (num_cells (num_kept k2 b))
  have HALL := Lib.hid hall
  have HW := Lib.hid hW0; have HB0 := Lib.hid hb0; have KR := Lib.hid kR
  obtain ⟨⟨p1, p2, _, _⟩, ⟨p3, p4, _, _⟩⟩ := hall W0 (Below.refl _ _)
  have HC4 := Lib.hid (fun W b => show (W.cell? ⟨w.heap.size, 0, none⟩ = some (.bool false) ∧ W.cell? ⟨w.heap.size, 1, none⟩ = some (.slice a1 m1 c1)) ∧ (W.cell? ⟨w.heap.size + 1, 0, none⟩ = some (.bool false) ∧ W.cell? ⟨w.heap.size + 1, 1, none⟩ = some (.slice a2 m2 c2)) from ⟨⟨(HALL.out W b).1.1, (HALL.out W b).1.2.1⟩, ⟨(HALL.out W b).2.1, (HALL.out W b).2.2.1⟩⟩)
  clear cg hb0 k1 k2 kR h1 h2 hG hW0 hall he
  go_enter Tryz.func97, Tryz.ntmps97
  go_wp2_with (rw [HW.out])
  go_region_held3 (fun W => (W.cell? ⟨w.heap.size, 0, none⟩ = some (.bool false) ∧ W.cell? ⟨w.heap.size, 1, none⟩ = some (.slice a1 m1 c1)) ∧ (W.cell? ⟨w.heap.size + 1, 0, none⟩ = some (.bool false) ∧ W.cell? ⟨w.heap.size + 1, 1, none⟩ = some (.slice a2 m2 c2)))
    (first | exact HC4.out _ ⟨rfl, rfl, rfl, Nat.le_refl _, fun _ _ => rfl⟩ | exact HC4.out _ hb | (obtain ⟨⟨e1, e2⟩, ⟨e3, e4⟩⟩ := HC4.out _ hb; simp [go_sem, e1, e2, e3, e4]))
    ((go_at_call 104; (with_reducible refine (CG.out _ ?_).mono ?_); exact ⟨rfl, rfl, rfl, Nat.le_refl _, fun _ _ => rfl⟩; (rintro e w5 ⟨ad, cap, m, rfl, hm, hh, hb'⟩); have hb : Below W0.heap.size W0 w5 := ⟨hb'.os, hb'.tape, hb'.output, hb'.size, hb'.block⟩; obtain ⟨q1, q2, q3, q4⟩ := num_cells (num_kept KR.out hb)))
  all_goals (
    obtain ⟨q1, q2, q3, q4⟩ := num_cells (num_kept KR.out hb)
    have HN := Lib.hid (show NatAt w5 ad m cap _ from ⟨hm, hh⟩); have HB := Lib.hid hb
    clear hm hh hb
    go_wp2
    obtain ⟨d1, d2⟩ := num_done HB0.out KR.out (by omega) HB.out HN.out (.bool false) (.slice ad m cap)
    exact bodyPost_ret (v := .agg #[.bool false, .slice ad m cap]) (by simp [results, Tryz.results97, go_sem, q1, q2]) rfl ⟨false, G, ad, m, cap, rfl, rfl, d1, d2⟩)
set_option maxRecDepth 100000 in
set_option maxHeartbeats 8000000 in
theorem plus_MM (N1 N2 : Nat) (a1 a2 : Option Addr) (m1 m2 c1 c2 : Nat) (w : World) (h1 : NatAt w a1 m1 c1 N1) (h2 : NatAt w a2 m2 c2 N2) (l1 : m1 ≤ 900) (l2 : m2 ≤ 900) :
    Calls Tryz.prog 97 #[.agg #[.bool true, .slice a1 m1 c1], .agg #[.bool true, .slice a2 m2 c2]] w (NumPost w (intD true N1 + intD true N2)) := by
  obtain ⟨W0, hW0, hb0, k1, k2, kR⟩ := num_frame w true true a1 a2 m1 m2 c1 c2
  have cg := fun W (b : Below W0.heap.size W0 W) => plus_any3 N1 N2 (N1 + N2) (1) (by omega) (by omega) (by omega) a1 a2 c1 c2 m1 m2 W ((h1.below hb0 (Nat.le_refl _)).below b (Nat.le_refl _)) ((h2.below hb0 (Nat.le_refl _)).below b (Nat.le_refl _)) (by omega) (by omega)
  have he : intD true (N1 + N2) = intD true N1 + intD true N2 := by simp [intD] <;> omega
  obtain ⟨G, hG⟩ : ∃ G, N1 + N2 = G := ⟨_, rfl⟩
  rw [hG] at cg he
  rw [← he]
  have CG := Lib.hid cg
  have hall := fun W (b : Below W0.heap.size W0 W) => And.intro (num_cells (num_kept k1 b)) (num_cells (num_kept k2 b))
  have HALL := Lib.hid hall
  have HW := Lib.hid hW0; have HB0 := Lib.hid hb0; have KR := Lib.hid kR
  obtain ⟨⟨p1, p2, _, _⟩, ⟨p3, p4, _, _⟩⟩ := hall W0 (Below.refl _ _)
  have HC4 := Lib.hid (fun W b => show (W.cell? ⟨w.heap.size, 0, none⟩ = some (.bool true) ∧ W.cell? ⟨w.heap.size, 1, none⟩ = some (.slice a1 m1 c1)) ∧ (W.cell? ⟨w.heap.size + 1, 0, none⟩ = some (.bool true) ∧ W.cell? ⟨w.heap.size + 1, 1, none⟩ = some (.slice a2 m2 c2)) from ⟨⟨(HALL.out W b).1.1, (HALL.out W b).1.2.1⟩, ⟨(HALL.out W b).2.1, (HALL.out W b).2.2.1⟩⟩)
  clear cg hb0 k1 k2 kR h1 h2 hG hW0 hall he
  go_enter Tryz.func97, Tryz.ntmps97
  go_wp2_with (rw [HW.out])
  go_region_held3 (fun W => (W.cell? ⟨w.heap.size, 0, none⟩ = some (.bool true) ∧ W.cell? ⟨w.heap.size, 1, none⟩ = some (.slice a1 m1 c1)) ∧ (W.cell? ⟨w.heap.size + 1, 0, none⟩ = some (.bool true) ∧ W.cell? ⟨w.heap.size + 1, 1, none⟩ = some (.slice a2 m2 c2)))
    (first | exact HC4.out _ ⟨rfl, rfl, rfl, Nat.le_refl _, fun _ _ => rfl⟩ | exact HC4.out _ hb | (obtain ⟨⟨e1, e2⟩, ⟨e3, e4⟩⟩ := HC4.out _ hb; simp [go_sem, e1, e2, e3, e4]))
    ((go_at_call 104; (with_reducible refine (CG.out _ ?_).mono ?_); exact ⟨rfl, rfl, rfl, Nat.le_refl _, fun _ _ => rfl⟩; (rintro e w5 ⟨ad, cap, m, rfl, hm, hh, hb'⟩); have hb : Below W0.heap.size W0 w5 := ⟨hb'.os, hb'.tape, hb'.output, hb'.size, hb'.block⟩; obtain ⟨q1, q2, q3, q4⟩ := num_cells (num_kept KR.out hb)))
  all_goals (
    obtain ⟨q1, q2, q3, q4⟩ := num_cells (num_kept KR.out hb)
    have HN := Lib.hid (show NatAt w5 ad m cap _ from ⟨hm, hh⟩); have HB := Lib.hid hb
    clear hm hh hb
    go_wp2
    obtain ⟨d1, d2⟩ := num_done HB0.out KR.out (by omega) HB.out HN.out (.bool true) (.slice ad m cap)
    exact bodyPost_ret (v := .agg #[.bool true, .slice ad m cap]) (by simp [results, Tryz.results97, go_sem, q1, q2]) rfl ⟨true, G, ad, m, cap, rfl, rfl, d1, d2⟩)
set_option maxRecDepth 100000 in
set_option maxHeartbeats 8000000 in
theorem plus_PML (N1 N2 : Nat) (a1 a2 : Option Addr) (m1 m2 c1 c2 : Nat) (w : World) (h1 : NatAt w a1 m1 c1 N1) (h2 : NatAt w a2 m2 c2 N2) (l1 : m1 ≤ 900) (l2 : m2 ≤ 900) (hlt : N1 < N2) :
    Calls Tryz.prog 97 #[.agg #[.bool false, .slice a1 m1 c1], .agg #[.bool true, .slice a2 m2 c2]] w (NumPost w (intD false N1 + intD true N2)) := by
  obtain ⟨W0, hW0, hb0, k1, k2, kR⟩ := num_frame w false true a1 a2 m1 m2 c1 c2
  have cg := fun W (b : Below W0.heap.size W0 W) => plus_any3 N2 N1 (N2 - N1) (-1) (by omega) (by omega) (by omega) a2 a1 c2 c1 m2 m1 W ((h2.below hb0 (Nat.le_refl _)).below b (Nat.le_refl _)) ((h1.below hb0 (Nat.le_refl _)).below b (Nat.le_refl _)) (by omega) (by omega)
  have he : intD true (N2 - N1) = intD false N1 + intD true N2 := by simp [intD] <;> omega
  obtain ⟨G, hG⟩ : ∃ G, N2 - N1 = G := ⟨_, rfl⟩
  rw [hG] at cg he
  rw [← he]
  have cl := less_any N1 N2 a1 a2 c1 c2 m1 m2 W0 (h1.below hb0 (Nat.le_refl _)) (h2.below hb0 (Nat.le_refl _))
  rw [show decide (N1 < N2) = true from decide_eq_true hlt] at cl
  have CG := Lib.hid cg
  have CL := Lib.hid cl
  have hall := fun W (b : Below W0.heap.size W0 W) => And.intro (num_cells (num_kept k1 b)) (num_cells (num_kept k2 b))
  have HALL := Lib.hid hall
  have HW := Lib.hid hW0; have HB0 := Lib.hid hb0; have KR := Lib.hid kR
  obtain ⟨⟨p1, p2, _, _⟩, ⟨p3, p4, _, _⟩⟩ := hall W0 (Below.refl _ _)
  have HC4 := Lib.hid (fun W b => show (W.cell? ⟨w.heap.size, 0, none⟩ = some (.bool false) ∧ W.cell? ⟨w.heap.size, 1, none⟩ = some (.slice a1 m1 c1)) ∧ (W.cell? ⟨w.heap.size + 1, 0, none⟩ = some (.bool true) ∧ W.cell? ⟨w.heap.size + 1, 1, none⟩ = some (.slice a2 m2 c2)) from ⟨⟨(HALL.out W b).1.1, (HALL.out W b).1.2.1⟩, ⟨(HALL.out W b).2.1, (HALL.out W b).2.2.1⟩⟩)
  clear cg hb0 k1 k2 kR h1 h2 hG hW0 hall he cl
  go_enter Tryz.func97, Tryz.ntmps97
  go_wp2_with (rw [HW.out])
  refine CL.out.mono ?_
  rintro e wz ⟨rfl, bz⟩
  obtain ⟨⟨r1, r2⟩, ⟨r3, r4⟩⟩ := HC4.out wz bz
  have BZ := Lib.hid bz
  have KZ := Lib.hid (num_kept KR.out bz)
  clear p1 p2 p3 p4 bz CL
  go_wp2_with fail
  go_region_held3 (fun W => (W.cell? ⟨w.heap.size, 0, none⟩ = some (.bool false) ∧ W.cell? ⟨w.heap.size, 1, none⟩ = some (.slice a1 m1 c1)) ∧ (W.cell? ⟨w.heap.size + 1, 0, none⟩ = some (.bool true) ∧ W.cell? ⟨w.heap.size + 1, 1, none⟩ = some (.slice a2 m2 c2)))
    (first | exact HC4.out _ ⟨BZ.out.os, BZ.out.tape, BZ.out.output, BZ.out.size, BZ.out.block⟩ | exact HC4.out _ (below_of BZ.out hb) | (obtain ⟨⟨e1, e2⟩, ⟨e3, e4⟩⟩ := HC4.out _ (below_of BZ.out hb); simp [go_sem, e1, e2, e3, e4]))
    ((go_at_call 104; (with_reducible refine (CG.out _ ?_).mono ?_); exact ⟨BZ.out.os, BZ.out.tape, BZ.out.output, BZ.out.size, BZ.out.block⟩; (rintro e w5 ⟨ad, cap, m, rfl, hm, hh, hb'⟩); have hb : Below wz.heap.size wz w5 := ⟨hb'.os, hb'.tape, hb'.output, hb'.size, hb'.block⟩; obtain ⟨q1, q2, q3, q4⟩ := num_cells (num_kept KZ.out hb)))
  all_goals (
    obtain ⟨q1, q2, q3, q4⟩ := num_cells (num_kept KZ.out hb)
    have HN := Lib.hid (show NatAt w5 ad m cap _ from ⟨hm, hh⟩); have HB := Lib.hid (below_of BZ.out hb)
    clear hm hh hb
    go_wp2
    obtain ⟨d1, d2⟩ := num_done HB0.out KR.out (by omega) HB.out HN.out (.bool true) (.slice ad m cap)
    exact bodyPost_ret (v := .agg #[.bool true, .slice ad m cap]) (by simp [results, Tryz.results97, go_sem, q1, q2]) rfl ⟨true, G, ad, m, cap, rfl, rfl, d1, d2⟩)
set_option maxRecDepth 100000 in
set_option maxHeartbeats 8000000 in
theorem plus_PMG (N1 N2 : Nat) (a1 a2 : Option Addr) (m1 m2 c1 c2 : Nat) (w : World) (h1 : NatAt w a1 m1 c1 N1) (h2 : NatAt w a2 m2 c2 N2) (l1 : m1 ≤ 900) (l2 : m2 ≤ 900) (hlt : ¬ N1 < N2) :
    Calls Tryz.prog 97 #[.agg #[.bool false, .slice a1 m1 c1], .agg #[.bool true, .slice a2 m2 c2]] w (NumPost w (intD false N1 + intD true N2)) := by
  obtain ⟨W0, hW0, hb0, k1, k2, kR⟩ := num_frame w false true a1 a2 m1 m2 c1 c2
  have cg := fun W (b : Below W0.heap.size W0 W) => plus_any3 N1 N2 (N1 - N2) (-1) (by omega) (by omega) (by omega) a1 a2 c1 c2 m1 m2 W ((h1.below hb0 (Nat.le_refl _)).below b (Nat.le_refl _)) ((h2.below hb0 (Nat.le_refl _)).below b (Nat.le_refl _)) (by omega) (by omega)
  have he : intD false (N1 - N2) = intD false N1 + intD true N2 := by simp [intD] <;> omega
  obtain ⟨G, hG⟩ : ∃ G, N1 - N2 = G := ⟨_, rfl⟩
  rw [hG] at cg he
  rw [← he]
  have cl := less_any N1 N2 a1 a2 c1 c2 m1 m2 W0 (h1.below hb0 (Nat.le_refl _)) (h2.below hb0 (Nat.le_refl _))
  rw [show decide (N1 < N2) = false from decide_eq_false hlt] at cl
  have CG := Lib.hid cg
  have CL := Lib.hid cl
  have hall := fun W (b : Below W0.heap.size W0 W) => And.intro (num_cells (num_kept k1 b)) (num_cells (num_kept k2 b))
  have HALL := Lib.hid hall
  have HW := Lib.hid hW0; have HB0 := Lib.hid hb0; have KR := Lib.hid kR
  obtain ⟨⟨p1, p2, _, _⟩, ⟨p3, p4, _, _⟩⟩ := hall W0 (Below.refl _ _)
  have HC4 := Lib.hid (fun W b => show (W.cell? ⟨w.heap.size, 0, none⟩ = some (.bool false) ∧ W.cell? ⟨w.heap.size, 1, none⟩ = some (.slice a1 m1 c1)) ∧ (W.cell? ⟨w.heap.size + 1, 0, none⟩ = some (.bool true) ∧ W.cell? ⟨w.heap.size + 1, 1, none⟩ = some (.slice a2 m2 c2)) from ⟨⟨(HALL.out W b).1.1, (HALL.out W b).1.2.1⟩, ⟨(HALL.out W b).2.1, (HALL.out W b).2.2.1⟩⟩)
  clear cg hb0 k1 k2 kR h1 h2 hG hW0 hall he cl
  go_enter Tryz.func97, Tryz.ntmps97
  go_wp2_with (rw [HW.out])
  refine CL.out.mono ?_
  rintro e wz ⟨rfl, bz⟩
  obtain ⟨⟨r1, r2⟩, ⟨r3, r4⟩⟩ := HC4.out wz bz
  have BZ := Lib.hid bz
  have KZ := Lib.hid (num_kept KR.out bz)
  clear p1 p2 p3 p4 bz CL
  go_wp2_with fail
  go_region_held3 (fun W => (W.cell? ⟨w.heap.size, 0, none⟩ = some (.bool false) ∧ W.cell? ⟨w.heap.size, 1, none⟩ = some (.slice a1 m1 c1)) ∧ (W.cell? ⟨w.heap.size + 1, 0, none⟩ = some (.bool true) ∧ W.cell? ⟨w.heap.size + 1, 1, none⟩ = some (.slice a2 m2 c2)))
    (first | exact HC4.out _ ⟨BZ.out.os, BZ.out.tape, BZ.out.output, BZ.out.size, BZ.out.block⟩ | exact HC4.out _ (below_of BZ.out hb) | (obtain ⟨⟨e1, e2⟩, ⟨e3, e4⟩⟩ := HC4.out _ (below_of BZ.out hb); simp [go_sem, e1, e2, e3, e4]))
    ((go_at_call 104; (with_reducible refine (CG.out _ ?_).mono ?_); exact ⟨BZ.out.os, BZ.out.tape, BZ.out.output, BZ.out.size, BZ.out.block⟩; (rintro e w5 ⟨ad, cap, m, rfl, hm, hh, hb'⟩); have hb : Below wz.heap.size wz w5 := ⟨hb'.os, hb'.tape, hb'.output, hb'.size, hb'.block⟩; obtain ⟨q1, q2, q3, q4⟩ := num_cells (num_kept KZ.out hb)))
  all_goals (
    obtain ⟨q1, q2, q3, q4⟩ := num_cells (num_kept KZ.out hb)
    have HN := Lib.hid (show NatAt w5 ad m cap _ from ⟨hm, hh⟩); have HB := Lib.hid (below_of BZ.out hb)
    clear hm hh hb
    go_wp2
    obtain ⟨d1, d2⟩ := num_done HB0.out KR.out (by omega) HB.out HN.out (.bool false) (.slice ad m cap)
    exact bodyPost_ret (v := .agg #[.bool false, .slice ad m cap]) (by simp [results, Tryz.results97, go_sem, q1, q2]) rfl ⟨false, G, ad, m, cap, rfl, rfl, d1, d2⟩)
set_option maxRecDepth 100000 in
set_option maxHeartbeats 8000000 in
theorem plus_MPL (N1 N2 : Nat) (a1 a2 : Option Addr) (m1 m2 c1 c2 : Nat) (w : World) (h1 : NatAt w a1 m1 c1 N1) (h2 : NatAt w a2 m2 c2 N2) (l1 : m1 ≤ 900) (l2 : m2 ≤ 900) (hlt : N1 < N2) :
    Calls Tryz.prog 97 #[.agg #[.bool true, .slice a1 m1 c1], .agg #[.bool false, .slice a2 m2 c2]] w (NumPost w (intD true N1 + intD false N2)) := by
  obtain ⟨W0, hW0, hb0, k1, k2, kR⟩ := num_frame w true false a1 a2 m1 m2 c1 c2
  have cg := fun W (b : Below W0.heap.size W0 W) => plus_any3 N2 N1 (N2 - N1) (-1) (by omega) (by omega) (by omega) a2 a1 c2 c1 m2 m1 W ((h2.below hb0 (Nat.le_refl _)).below b (Nat.le_refl _)) ((h1.below hb0 (Nat.le_refl _)).below b (Nat.le_refl _)) (by omega) (by omega)
  have he : intD false (N2 - N1) = intD true N1 + intD false N2 := by simp [intD] <;> omega
  obtain ⟨G, hG⟩ : ∃ G, N2 - N1 = G := ⟨_, rfl⟩
  rw [hG] at cg he
  rw [← he]
  have cl := less_any N1 N2 a1 a2 c1 c2 m1 m2 W0 (h1.below hb0 (Nat.le_refl _)) (h2.below hb0 (Nat.le_refl _))
  rw [show decide (N1 < N2) = true from decide_eq_true hlt] at cl
  have CG := Lib.hid cg
  have CL := Lib.hid cl
  have hall := fun W (b : Below W0.heap.size W0 W) => And.intro (num_cells (num_kept k1 b)) (num_cells (num_kept k2 b))
  have HALL := Lib.hid hall
  have HW := Lib.hid hW0; have HB0 := Lib.hid hb0; have KR := Lib.hid kR
  obtain ⟨⟨p1, p2, _, _⟩, ⟨p3, p4, _, _⟩⟩ := hall W0 (Below.refl _ _)
  have HC4 := Lib.hid (fun W b => show (W.cell? ⟨w.heap.size, 0, none⟩ = some (.bool true) ∧ W.cell? ⟨w.heap.size, 1, none⟩ = some (.slice a1 m1 c1)) ∧ (W.cell? ⟨w.heap.size + 1, 0, none⟩ = some (.bool false) ∧ W.cell? ⟨w.heap.size + 1, 1, none⟩ = some (.slice a2 m2 c2)) from ⟨⟨(HALL.out W b).1.1, (HALL.out W b).1.2.1⟩, ⟨(HALL.out W b).2.1, (HALL.out W b).2.2.1⟩⟩)
  clear cg hb0 k1 k2 kR h1 h2 hG hW0 hall he cl
  go_enter Tryz.func97, Tryz.ntmps97
  go_wp2_with (rw [HW.out])
  refine CL.out.mono ?_
  rintro e wz ⟨rfl, bz⟩
  obtain ⟨⟨r1, r2⟩, ⟨r3, r4⟩⟩ := HC4.out wz bz
  have BZ := Lib.hid bz
  have KZ := Lib.hid (num_kept KR.out bz)
  clear p1 p2 p3 p4 bz CL
  go_wp2_with fail
  go_region_held3 (fun W => (W.cell? ⟨w.heap.size, 0, none⟩ = some (.bool true) ∧ W.cell? ⟨w.heap.size, 1, none⟩ = some (.slice a1 m1 c1)) ∧ (W.cell? ⟨w.heap.size + 1, 0, none⟩ = some (.bool false) ∧ W.cell? ⟨w.heap.size + 1, 1, none⟩ = some (.slice a2 m2 c2)))
    (first | exact HC4.out _ ⟨BZ.out.os, BZ.out.tape, BZ.out.output, BZ.out.size, BZ.out.block⟩ | exact HC4.out _ (below_of BZ.out hb) | (obtain ⟨⟨e1, e2⟩, ⟨e3, e4⟩⟩ := HC4.out _ (below_of BZ.out hb); simp [go_sem, e1, e2, e3, e4]))
    ((go_at_call 104; (with_reducible refine (CG.out _ ?_).mono ?_); exact ⟨BZ.out.os, BZ.out.tape, BZ.out.output, BZ.out.size, BZ.out.block⟩; (rintro e w5 ⟨ad, cap, m, rfl, hm, hh, hb'⟩); have hb : Below wz.heap.size wz w5 := ⟨hb'.os, hb'.tape, hb'.output, hb'.size, hb'.block⟩; obtain ⟨q1, q2, q3, q4⟩ := num_cells (num_kept KZ.out hb)))
  all_goals (
    obtain ⟨q1, q2, q3, q4⟩ := num_cells (num_kept KZ.out hb)
    have HN := Lib.hid (show NatAt w5 ad m cap _ from ⟨hm, hh⟩); have HB := Lib.hid (below_of BZ.out hb)
    clear hm hh hb
    go_wp2
    obtain ⟨d1, d2⟩ := num_done HB0.out KR.out (by omega) HB.out HN.out (.bool false) (.slice ad m cap)
    exact bodyPost_ret (v := .agg #[.bool false, .slice ad m cap]) (by simp [results, Tryz.results97, go_sem, q1, q2]) rfl ⟨false, G, ad, m, cap, rfl, rfl, d1, d2⟩)
set_option maxRecDepth 100000 in
set_option maxHeartbeats 8000000 in
theorem plus_MPG (N1 N2 : Nat) (a1 a2 : Option Addr) (m1 m2 c1 c2 : Nat) (w : World) (h1 : NatAt w a1 m1 c1 N1) (h2 : NatAt w a2 m2 c2 N2) (l1 : m1 ≤ 900) (l2 : m2 ≤ 900) (hlt : ¬ N1 < N2) :
    Calls Tryz.prog 97 #[.agg #[.bool true, .slice a1 m1 c1], .agg #[.bool false, .slice a2 m2 c2]] w (NumPost w (intD true N1 + intD false N2)) := by
  obtain ⟨W0, hW0, hb0, k1, k2, kR⟩ := num_frame w true false a1 a2 m1 m2 c1 c2
  have cg := fun W (b : Below W0.heap.size W0 W) => plus_any3 N1 N2 (N1 - N2) (-1) (by omega) (by omega) (by omega) a1 a2 c1 c2 m1 m2 W ((h1.below hb0 (Nat.le_refl _)).below b (Nat.le_refl _)) ((h2.below hb0 (Nat.le_refl _)).below b (Nat.le_refl _)) (by omega) (by omega)
  have he : intD true (N1 - N2) = intD true N1 + intD false N2 := by simp [intD] <;> omega
  obtain ⟨G, hG⟩ : ∃ G, N1 - N2 = G := ⟨_, rfl⟩
  rw [hG] at cg he
  rw [← he]
  have cl := less_any N1 N2 a1 a2 c1 c2 m1 m2 W0 (h1.below hb0 (Nat.le_refl _)) (h2.below hb0 (Nat.le_refl _))
  rw [show decide (N1 < N2) = false from decide_eq_false hlt] at cl
  have CG := Lib.hid cg
  have CL := Lib.hid cl
  have hall := fun W (b : Below W0.heap.size W0 W) => And.intro (num_cells (num_kept k1 b)) (num_cells (num_kept k2 b))
  have HALL := Lib.hid hall
  have HW := Lib.hid hW0; have HB0 := Lib.hid hb0; have KR := Lib.hid kR
  obtain ⟨⟨p1, p2, _, _⟩, ⟨p3, p4, _, _⟩⟩ := hall W0 (Below.refl _ _)
  have HC4 := Lib.hid (fun W b => show (W.cell? ⟨w.heap.size, 0, none⟩ = some (.bool true) ∧ W.cell? ⟨w.heap.size, 1, none⟩ = some (.slice a1 m1 c1)) ∧ (W.cell? ⟨w.heap.size + 1, 0, none⟩ = some (.bool false) ∧ W.cell? ⟨w.heap.size + 1, 1, none⟩ = some (.slice a2 m2 c2)) from ⟨⟨(HALL.out W b).1.1, (HALL.out W b).1.2.1⟩, ⟨(HALL.out W b).2.1, (HALL.out W b).2.2.1⟩⟩)
  clear cg hb0 k1 k2 kR h1 h2 hG hW0 hall he cl
  go_enter Tryz.func97, Tryz.ntmps97
  go_wp2_with (rw [HW.out])
  refine CL.out.mono ?_
  rintro e wz ⟨rfl, bz⟩
  obtain ⟨⟨r1, r2⟩, ⟨r3, r4⟩⟩ := HC4.out wz bz
  have BZ := Lib.hid bz
  have KZ := Lib.hid (num_kept KR.out bz)
  clear p1 p2 p3 p4 bz CL
  go_wp2_with fail
  go_region_held3 (fun W => (W.cell? ⟨w.heap.size, 0, none⟩ = some (.bool true) ∧ W.cell? ⟨w.heap.size, 1, none⟩ = some (.slice a1 m1 c1)) ∧ (W.cell? ⟨w.heap.size + 1, 0, none⟩ = some (.bool false) ∧ W.cell? ⟨w.heap.size + 1, 1, none⟩ = some (.slice a2 m2 c2)))
    (first | exact HC4.out _ ⟨BZ.out.os, BZ.out.tape, BZ.out.output, BZ.out.size, BZ.out.block⟩ | exact HC4.out _ (below_of BZ.out hb) | (obtain ⟨⟨e1, e2⟩, ⟨e3, e4⟩⟩ := HC4.out _ (below_of BZ.out hb); simp [go_sem, e1, e2, e3, e4]))
    ((go_at_call 104; (with_reducible refine (CG.out _ ?_).mono ?_); exact ⟨BZ.out.os, BZ.out.tape, BZ.out.output, BZ.out.size, BZ.out.block⟩; (rintro e w5 ⟨ad, cap, m, rfl, hm, hh, hb'⟩); have hb : Below wz.heap.size wz w5 := ⟨hb'.os, hb'.tape, hb'.output, hb'.size, hb'.block⟩; obtain ⟨q1, q2, q3, q4⟩ := num_cells (num_kept KZ.out hb)))
  all_goals (
    obtain ⟨q1, q2, q3, q4⟩ := num_cells (num_kept KZ.out hb)
    have HN := Lib.hid (show NatAt w5 ad m cap _ from ⟨hm, hh⟩); have HB := Lib.hid (below_of BZ.out hb)
    clear hm hh hb
    go_wp2
    obtain ⟨d1, d2⟩ := num_done HB0.out KR.out (by omega) HB.out HN.out (.bool true) (.slice ad m cap)
    exact bodyPost_ret (v := .agg #[.bool true, .slice ad m cap]) (by simp [results, Tryz.results97, go_sem, q1, q2]) rfl ⟨true, G, ad, m, cap, rfl, rfl, d1, d2⟩)
theorem plusN_any (b1 b2 : Bool) (N1 N2 : Nat) (a1 a2 : Option Addr) (m1 m2 c1 c2 : Nat) (w : World) (h1 : NatAt w a1 m1 c1 N1) (h2 : NatAt w a2 m2 c2 N2) (l1 : m1 ≤ 900) (l2 : m2 ≤ 900) :
    Calls Tryz.prog 97 #[.agg #[.bool b1, .slice a1 m1 c1], .agg #[.bool b2, .slice a2 m2 c2]] w (NumPost w (intD b1 N1 + intD b2 N2)) := by
  cases b1 <;> cases b2
  · exact plus_PP N1 N2 a1 a2 m1 m2 c1 c2 w h1 h2 l1 l2
  · by_cases h : N1 < N2
    · exact plus_PML N1 N2 a1 a2 m1 m2 c1 c2 w h1 h2 l1 l2 h
    · exact plus_PMG N1 N2 a1 a2 m1 m2 c1 c2 w h1 h2 l1 l2 h
  · by_cases h : N1 < N2
    · exact plus_MPL N1 N2 a1 a2 m1 m2 c1 c2 w h1 h2 l1 l2 h
    · exact plus_MPG N1 N2 a1 a2 m1 m2 c1 c2 w h1 h2 l1 l2 h
  · exact plus_MM N1 N2 a1 a2 m1 m2 c1 c2 w h1 h2 l1 l2
set_option maxRecDepth 100000 in
set_option maxHeartbeats 8000000 in
theorem minusN_any (b1 b2 : Bool) (N1 N2 : Nat) (a1 a2 : Option Addr) (m1 m2 c1 c2 : Nat) (w : World) (h1 : NatAt w a1 m1 c1 N1) (h2 : NatAt w a2 m2 c2 N2) (l1 : m1 ≤ 900) (l2 : m2 ≤ 900) :
    Calls Tryz.prog 98 #[.agg #[.bool b1, .slice a1 m1 c1], .agg #[.bool b2, .slice a2 m2 c2]] w (NumPost w (intD b1 N1 - intD b2 N2)) := by
  obtain ⟨W0, hW0, hb0, k1, k2, kR⟩ := num_frame w b1 b2 a1 a2 m1 m2 c1 c2
  have cg := plusN_any b1 (!b2) N1 N2 a1 a2 m1 m2 c1 c2 W0 (h1.below hb0 (Nat.le_refl _)) (h2.below hb0 (Nat.le_refl _)) l1 l2
  have he : intD b1 N1 + intD (!b2) N2 = intD b1 N1 - intD b2 N2 := by cases b2 <;> simp [intD] <;> omega
  rw [he] at cg
  obtain ⟨X, hX⟩ : ∃ X, intD b1 N1 - intD b2 N2 = X := ⟨_, rfl⟩
  rw [hX] at cg ⊢
  have hl1 := fun W (b : Below W0.heap.size W0 W) => num_kept k1 b
  have CG := Lib.hid cg
  have hall := fun W (b : Below W0.heap.size W0 W) => And.intro (num_cells (num_kept k1 b)) (num_cells (num_kept k2 b))
  have HALL := Lib.hid hall
  have HW := Lib.hid hW0; have HB0 := Lib.hid hb0; have KR := Lib.hid kR
  obtain ⟨⟨p1, p2, _, _⟩, ⟨p3, p4, _, _⟩⟩ := hall W0 (Below.refl _ _)
  clear cg hb0 k2 kR h1 h2 hX hW0 hall he hl1
  go_enter Tryz.func98, Tryz.ntmps98
  go_wp2_with (rw [HW.out])
  refine CG.out.mono ?_
  rintro e w5 ⟨neg, G, ad, m, cap, rfl, hg, hn, hb⟩
  obtain ⟨q1, q2, q3, q4⟩ := num_cells (num_kept KR.out hb)
  have HG := Lib.hid hg; have HN := Lib.hid hn; have HB := Lib.hid hb
  clear CG hn hb hg
  go_wp2_with fail
  obtain ⟨d1, d2⟩ := num_done HB0.out KR.out (by omega) HB.out HN.out (.bool neg) (.slice ad m cap)
  exact bodyPost_ret (v := .agg #[.bool neg, .slice ad m cap]) (by simp [results, Tryz.results98, go_sem, q1, q2]) rfl ⟨neg, G, ad, m, cap, rfl, HG.out, d1, d2⟩
end Go.Proofs.YtlcibnmcannapaaGreatDoor

namespace Go.Proofs.YtlcibnmcannapaaGreatDoor
open Go Go.Proofs Go.RowKit Go.Lib

theorem grps_nil_iff {N m : Nat} (h : (grps N).length = m) : N = 0 ↔ m = 0 := by
  constructor
  · rintro rfl; rw [← h, grps_zero]; rfl
  · intro e
    rcases Nat.eq_zero_or_pos N with h0 | h0
    · exact h0
    · rw [grps_pos (by omega)] at h; simp at h; omega
set_option maxHeartbeats 2000000 in
theorem textNat_any (N : Nat) (ad : Option Addr) (cap m : Nat) (w : World) (h : NatAt w ad m cap N) (hm : m ≤ 1000) (hR : Ready w) :
    Calls Tryz.prog 105 #[.slice ad m cap] w fun e w' => e = .returned (.string (byteL (textN N))) ∧ Below w.heap.size w w' := by
  by_cases h0 : N = 0
  · obtain rfl := h0
    obtain rfl : m = 0 := (grps_nil_iff h.1).1 rfl
    have ht : byteL (textN 0) = ⟨#[48]⟩ := rfl
    rw [ht]
    go_enter Tryz.func105, Tryz.ntmps105
    go_wp2
    go_ret
    exact ⟨rfl, Below.refl _ _⟩
  · exact callsIn_wide.1 (textM_in 0 N h0 ad cap m w h hm hR)

theorem minus_app (l : List Nat) : (⟨#[45]⟩ : ByteArray) ++ byteL l = byteL (45 :: l) := by
  apply ByteArray.ext
  rw [ByteArray.data_append]
  unfold byteL
  simp

set_option maxHeartbeats 4000000 in
theorem numText_any (b : Bool) (N : Nat) (ad : Option Addr) (m c : Nat) (w : World) (h : NatAt w ad m c N) (hm : m ≤ 1000) (hR : Ready w) :
    Calls Tryz.prog 79 #[.agg #[.bool b, .slice ad m c]] w fun e w' => e = .returned (.string (textI (intD b N))) ∧ Below w.heap.size w w' := by
  obtain ⟨W0, hW0⟩ : ∃ W0, w.alloc (.cells #[.bool b, .slice ad m c] 90) = W0 := ⟨_, rfl⟩
  have hb0 : Below w.heap.size w W0 := by rw [← hW0]; exact (Below.refl _ _).alloc (Nat.le_refl _) _
  have hk : W0.heap[w.heap.size]? = some (.cells #[.bool b, .slice ad m c] 90) := by rw [← hW0]; exact heap_alloc_new _ _
  obtain ⟨p1, p2, _, _⟩ := num_cells hk
  have ct := textNat_any N ad c m W0 (h.below hb0 (Nat.le_refl _)) hm (hR.below hb0)
  have hz := grps_nil_iff h.1
  have hlt := (grps_length_iff m N).1 (Nat.le_of_eq h.1)
  have CT := Lib.hid ct; have HW := Lib.hid hW0; have HB := Lib.hid hb0
  clear ct hW0 hb0 hk h hR
  cases b with
  | false =>
    have he : textI (intD false N) = byteL (textN N) := by
      show textI (N : Int) = _
      unfold textI
      rw [if_neg (by omega), Int.natAbs_natCast]
      rfl
    rw [he]
    clear he hz
    go_enter Tryz.func79, Tryz.ntmps79
    go_wp2_with (rw [HW.out])
    refine CT.out.mono ?_
    rintro e w5 ⟨rfl, hb⟩
    have HB5 := Lib.hid (below_of HB.out hb)
    clear hb
    go_wp2_with fail
    go_ret
    exact ⟨rfl, HB5.out⟩
  | true =>
    by_cases h0 : m = 0
    · have hN := hz.2 h0
      subst hN
      have he : textI (intD true 0) = byteL (textN 0) := rfl
      rw [he]
      subst h0
      clear he hz
      go_enter Tryz.func79, Tryz.ntmps79
      go_wp2_with (rw [HW.out])
      refine CT.out.mono ?_
      rintro e w5 ⟨rfl, hb⟩
      have HB5 := Lib.hid (below_of HB.out hb)
      clear hb
      go_wp2_with fail
      go_ret
      exact ⟨rfl, HB5.out⟩
    · have hN : N ≠ 0 := fun e => h0 (hz.1 e)
      have hmi : (0 : Int) < (m : Int) := by omega
      have he : textI (intD true N) = ⟨#[45]⟩ ++ byteL (textN N) := by
        rw [minus_app]
        unfold textI intD
        rw [if_pos (by simp; omega)]
        simp
      rw [he]
      have hTs : ¬ 9223372036854775807 < 1 + (byteL (textN N)).size := by
        rw [byteL_size]
        have := textN_len_le hlt
        omega
      obtain ⟨T, hT⟩ : ∃ T, byteL (textN N) = T := ⟨_, rfl⟩
      rw [hT] at CT hTs ⊢
      clear he hz hT
      go_enter Tryz.func79, Tryz.ntmps79
      go_wp2_with (rw [HW.out])
      refine CT.out.mono ?_
      rintro e w5 ⟨rfl, hb⟩
      have HB5 := Lib.hid (below_of HB.out hb)
      clear hb
      go_wp2_with fail
      go_ret
      exact ⟨rfl, HB5.out⟩

/-- The order of two numbers. -/
def sgnI (x y : Int) : Int := if x < y then -1 else if y < x then 1 else 0
theorem two_frame (w : World) (b1 b2 : Bool) (a1 a2 : Option Addr) (m1 m2 c1 c2 : Nat) : ∃ W0, (w.alloc (.cells #[.bool b1, .slice a1 m1 c1] 90)).alloc (.cells #[.bool b2, .slice a2 m2 c2] 90) = W0 ∧
    Below w.heap.size w W0 ∧ W0.heap[w.heap.size]? = some (.cells #[.bool b1, .slice a1 m1 c1] 90) ∧ W0.heap[w.heap.size + 1]? = some (.cells #[.bool b2, .slice a2 m2 c2] 90) := by
  refine ⟨_, rfl, ((Below.refl _ _).alloc (Nat.le_refl _) _).alloc (by simp) _, ?_, ?_⟩
  · rw [Below.heap_alloc _ _ _ (by simp)]
    exact heap_alloc_new _ _
  · have := heap_alloc_new (w.alloc (.cells #[.bool b1, .slice a1 m1 c1] 90)) (.cells #[.bool b2, .slice a2 m2 c2] 90)
    rw [World.size_alloc] at this
    exact this
theorem cmpI_cases (m n : Nat) : cmpI m n = sgnI (m : Int) (n : Int) ∧ cmpI n m = sgnI (-(m : Int)) (-(n : Int)) := by
  unfold cmpI sgnI
  constructor <;> (split <;> split <;> (try split) <;> (try split) <;> omega)
set_option maxHeartbeats 4000000 in
theorem numCmp_any (b1 b2 : Bool) (N1 N2 : Nat) (z1 : b1 = true → N1 ≠ 0) (z2 : b2 = true → N2 ≠ 0) (a1 a2 : Option Addr) (m1 m2 c1 c2 : Nat) (w : World) (h1 : NatAt w a1 m1 c1 N1) (h2 : NatAt w a2 m2 c2 N2) :
    Calls Tryz.prog 80 #[.agg #[.bool b1, .slice a1 m1 c1], .agg #[.bool b2, .slice a2 m2 c2]] w fun e w' => e = .returned (.int .i64 (sgnI (intD b1 N1) (intD b2 N2))) ∧ Below w.heap.size w w' := by
  obtain ⟨W0, hW0, hb0, k1, k2⟩ := two_frame w b1 b2 a1 a2 m1 m2 c1 c2
  have cc := compare_any N1 N2 a1 a2 c1 c2 m1 m2 W0 (h1.below hb0 (Nat.le_refl _)) (h2.below hb0 (Nat.le_refl _))
  have cd := compare_any N2 N1 a2 a1 c2 c1 m2 m1 W0 (h2.below hb0 (Nat.le_refl _)) (h1.below hb0 (Nat.le_refl _))
  rw [(cmpI_cases N1 N2).1] at cc
  rw [(cmpI_cases N1 N2).2] at cd
  obtain ⟨p1, p2, _, _⟩ := num_cells k1
  obtain ⟨p3, p4, _, _⟩ := num_cells k2
  have HW := Lib.hid hW0; have HB := Lib.hid hb0
  clear hW0 hb0 k1 k2 h1 h2
  cases b1 <;> cases b2
  · have he : sgnI (intD false N1) (intD false N2) = sgnI (N1 : Int) (N2 : Int) := rfl
    rw [he]
    obtain ⟨R, hR⟩ : ∃ R, sgnI (N1 : Int) (N2 : Int) = R := ⟨_, rfl⟩
    rw [hR] at cc ⊢
    have CC := Lib.hid cc
    clear cc cd he hR z1 z2
    go_enter Tryz.func80, Tryz.ntmps80
    go_wp2_with (rw [HW.out])
    refine CC.out.mono ?_
    rintro e w5 ⟨rfl, hb⟩
    have HB5 := Lib.hid (below_of HB.out hb)
    clear hb
    go_wp2_with fail
    go_ret
    exact ⟨rfl, HB5.out⟩
  · have he : sgnI (intD false N1) (intD true N2) = 1 := by
      have := z2 rfl
      unfold sgnI
      rw [if_neg (by simp [intD] <;> omega), if_pos (by simp [intD] <;> omega)]
    rw [he]
    clear cc cd he z1 z2
    go_enter Tryz.func80, Tryz.ntmps80
    go_wp2_with (rw [HW.out])
    go_ret
    exact ⟨rfl, HB.out⟩
  · have he : sgnI (intD true N1) (intD false N2) = -1 := by
      have := z1 rfl
      unfold sgnI
      rw [if_pos (by simp [intD] <;> omega)]
    rw [he]
    clear cc cd he z1 z2
    go_enter Tryz.func80, Tryz.ntmps80
    go_wp2_with (rw [HW.out])
    go_ret
    exact ⟨rfl, HB.out⟩
  · have he : sgnI (intD true N1) (intD true N2) = sgnI (-(N1 : Int)) (-(N2 : Int)) := rfl
    rw [he]
    obtain ⟨R, hR⟩ : ∃ R, sgnI (-(N1 : Int)) (-(N2 : Int)) = R := ⟨_, rfl⟩
    rw [hR] at cd ⊢
    have CC := Lib.hid cd
    clear cc cd he hR z1 z2
    go_enter Tryz.func80, Tryz.ntmps80
    go_wp2_with (rw [HW.out])
    refine CC.out.mono ?_
    rintro e w5 ⟨rfl, hb⟩
    have HB5 := Lib.hid (below_of HB.out hb)
    clear hb
    go_wp2_with fail
    go_ret
    exact ⟨rfl, HB5.out⟩
end Go.Proofs.YtlcibnmcannapaaGreatDoor

namespace Go.Proofs.YtlcibnmcannapaaGreatDoor
open Go Go.Proofs Go.RowKit Go.Lib

/-- Two numbers are returned. -/
def QRPost (w : World) (q r : Int) (e : Ending) (w' : World) : Prop :=
  ∃ bq Nq aq mq cq Nr ar mr cr, e = .returned (.tuple #[.agg #[.bool bq, .slice aq mq cq], .agg #[.bool false, .slice ar mr cr]]) ∧ intD bq Nq = q ∧ ((Nr : Nat) : Int) = r ∧ NatAt w' aq mq cq Nq ∧ NatAt w' ar mr cr Nr ∧ Below w.heap.size w w'
theorem four_frame (w : World) (b1 b2 : Bool) (a1 a2 : Option Addr) (m1 m2 c1 c2 : Nat) : ∃ W0, (((w.alloc (.cells #[.bool b1, .slice a1 m1 c1] 90)).alloc (.cells #[.bool b2, .slice a2 m2 c2] 90)).alloc (.cells #[.bool false, .slice none 0 0] 90)).alloc (.cells #[.bool false, .slice none 0 0] 90) = W0 ∧
    Below w.heap.size w W0 ∧ W0.heap[w.heap.size]? = some (.cells #[.bool b1, .slice a1 m1 c1] 90) ∧ W0.heap[w.heap.size + 1]? = some (.cells #[.bool b2, .slice a2 m2 c2] 90) ∧ W0.heap[w.heap.size + 2]? = some (.cells #[.bool false, .slice none 0 0] 90) ∧ W0.heap[w.heap.size + 3]? = some (.cells #[.bool false, .slice none 0 0] 90) := by
  obtain ⟨W, hW, hb, h1, h2, h3⟩ := num_frame w b1 b2 a1 a2 m1 m2 c1 c2
  have hs : W.heap.size = w.heap.size + 3 := by rw [← hW]; simp
  rw [hW]
  refine ⟨_, rfl, hb.alloc hb.size _, ?_, ?_, ?_, ?_⟩
  · rw [Below.heap_alloc _ _ _ (by omega)]; exact h1
  · rw [Below.heap_alloc _ _ _ (by omega)]; exact h2
  · rw [Below.heap_alloc _ _ _ (by omega)]; exact h3
  · have := heap_alloc_new W (.cells #[.bool false, .slice none 0 0] 90)
    rw [hs] at this
    exact this
theorem natAbs_intD (b : Bool) (N : Nat) : (intD b N).natAbs = N := by cases b <;> simp [intD]
theorem qr_done {w W0 W : World} {t : TypeId} (b0 : Below w.heap.size w W0) (hR : W0.heap[w.heap.size + 2]? = some (.cells #[.bool false, .slice none 0 0] t)) (hS : W0.heap[w.heap.size + 3]? = some (.cells #[.bool false, .slice none 0 0] t)) (b : Below W0.heap.size W0 W) {ad : Option Addr} {m c n : Nat} (h : NatAt W ad m c n) (x y x' y' : Value) :
    NatAt ((((W.setCell ⟨w.heap.size + 2, 0, none⟩ x).setCell ⟨w.heap.size + 2, 1, none⟩ y).setCell ⟨w.heap.size + 3, 0, none⟩ x').setCell ⟨w.heap.size + 3, 1, none⟩ y') ad m c n ∧ Below w.heap.size w ((((W.setCell ⟨w.heap.size + 2, 0, none⟩ x).setCell ⟨w.heap.size + 2, 1, none⟩ y).setCell ⟨w.heap.size + 3, 0, none⟩ x').setCell ⟨w.heap.size + 3, 1, none⟩ y') := by
  have ha := apart_num h (num_kept hR b)
  have ha' := apart_num h (num_kept hS b)
  exact ⟨(((h.store ha 0 _).store ha 1 _).store ha' 0 _).store ha' 1 _, ((((below_of b0 b).setCell (p := ⟨w.heap.size + 2, 0, none⟩) (by show _ ≤ w.heap.size + 2; omega) _).setCell (p := ⟨w.heap.size + 2, 1, none⟩) (by show _ ≤ w.heap.size + 2; omega) _).setCell (p := ⟨w.heap.size + 3, 0, none⟩) (by show _ ≤ w.heap.size + 3; omega) _).setCell (p := ⟨w.heap.size + 3, 1, none⟩) (by show _ ≤ w.heap.size + 3; omega) _⟩

set_option maxRecDepth 100000 in
set_option maxHeartbeats 8000000 in
theorem div_less (b1 b2 : Bool) (N1 N2 : Nat) (hd : 0 < N2) (hz : b1 = false ∨ N1 % N2 = 0) (a1 a2 : Option Addr) (m1 m2 c1 c2 : Nat) (w : World) (h1 : NatAt w a1 m1 c1 N1) (h2 : NatAt w a2 m2 c2 N2) (l1 : m1 ≤ 900) (l2 : m2 ≤ 900) :
    Calls Tryz.prog 78 #[.agg #[.bool b1, .slice a1 m1 c1], .agg #[.bool b2, .slice a2 m2 c2]] w (QRPost w (intD b1 N1 / intD b2 N2) (intD b1 N1 % intD b2 N2)) := by
  have hp := div_plain (x := intD b1 N1) (y := intD b2 N2) (b := b1) (c := b2) (by rw [natAbs_intD]) (by rw [natAbs_intD]) (by cases b2 <;> simp [intD] <;> omega) (by rw [natAbs_intD, natAbs_intD]; exact hz)
  rw [natAbs_intD, natAbs_intD] at hp
  obtain ⟨W0, hW0, hb0, k1, k2, kR, kS⟩ := four_frame w b1 b2 a1 a2 m1 m2 c1 c2
  have cd := divide_any N1 N2 hd a1 a2 c1 c2 m1 m2 W0 (h1.below hb0 (Nat.le_refl _)) (h2.below hb0 (Nat.le_refl _)) l1 l2
  obtain ⟨X, hX⟩ : ∃ X, intD b1 N1 / intD b2 N2 = X := ⟨_, rfl⟩
  obtain ⟨Y, hY⟩ : ∃ X, intD b1 N1 % intD b2 N2 = X := ⟨_, rfl⟩
  obtain ⟨Q, hQ⟩ : ∃ X, N1 / N2 = X := ⟨_, rfl⟩
  obtain ⟨R, hR⟩ : ∃ X, N1 % N2 = X := ⟨_, rfl⟩
  rw [hX, hY, hQ, hR] at hp
  rw [hQ, hR] at cd
  rw [hX, hY]
  rw [hR] at hz
  have hall := fun W (b : Below W0.heap.size W0 W) => And.intro (num_cells (num_kept k1 b)) (num_cells (num_kept k2 b))
  have HALL := Lib.hid hall
  have HP := Lib.hid hp; have CD := Lib.hid cd; have HW := Lib.hid hW0; have HB0 := Lib.hid hb0; have KR := Lib.hid kR; have KS := Lib.hid kS
  obtain ⟨⟨p1, p2, _, _⟩, ⟨p3, p4, _, _⟩⟩ := hall W0 (Below.refl _ _)
  clear hp cd hW0 hb0 k1 k2 kR kS hall hX hY hQ hR h1 h2
  go_enter Tryz.func78, Tryz.ntmps78
  go_wp2_with (rw [HW.out])
  refine CD.out.mono ?_
  rintro e w5 ⟨aq, cq, mq, ar, cr, mr, rfl, hq, hr, hb⟩
  have hz0 : b1 = false ∨ mr = 0 := hz.imp id (fun h => (grps_nil_iff hr.1).1 h)
  obtain ⟨⟨r1, r2, _, _⟩, ⟨r3, r4, _, _⟩⟩ := HALL.out w5 hb
  obtain ⟨q1, q2, q3, q4⟩ := num_cells (num_kept KR.out hb)
  obtain ⟨q5, q6, q7, q8⟩ := num_cells (num_kept KS.out hb)
  have HQ := Lib.hid hq; have HR := Lib.hid hr; have HB := Lib.hid hb
  clear hq hr hb p1 p2 p3 p4 CD hz
  cases b1
  · clear hz0
    cases b2
    · go_wp2_with fail
      exact bodyPost_ret (v := .tuple #[.agg #[.bool (false != false), .slice aq mq cq], .agg #[.bool false, .slice ar mr cr]]) (by simp [results, Tryz.results78, go_sem, q1, q2, q5, q6]) rfl ⟨(false != false), Q, aq, mq, cq, R, ar, mr, cr, rfl, HP.out.1, HP.out.2, (qr_done HB0.out KR.out KS.out HB.out HQ.out _ _ _ _).1, (qr_done HB0.out KR.out KS.out HB.out HR.out _ _ _ _).1, (qr_done HB0.out KR.out KS.out HB.out HR.out _ _ _ _).2⟩
    · go_wp2_with fail
      exact bodyPost_ret (v := .tuple #[.agg #[.bool (false != true), .slice aq mq cq], .agg #[.bool false, .slice ar mr cr]]) (by simp [results, Tryz.results78, go_sem, q1, q2, q5, q6]) rfl ⟨(false != true), Q, aq, mq, cq, R, ar, mr, cr, rfl, HP.out.1, HP.out.2, (qr_done HB0.out KR.out KS.out HB.out HQ.out _ _ _ _).1, (qr_done HB0.out KR.out KS.out HB.out HR.out _ _ _ _).1, (qr_done HB0.out KR.out KS.out HB.out HR.out _ _ _ _).2⟩
  · obtain rfl : mr = 0 := hz0.resolve_left (by simp)
    cases b2
    · go_wp2_with fail
      exact bodyPost_ret (v := .tuple #[.agg #[.bool (true != false), .slice aq mq cq], .agg #[.bool false, .slice ar 0 cr]]) (by simp [results, Tryz.results78, go_sem, q1, q2, q5, q6]) rfl ⟨(true != false), Q, aq, mq, cq, R, ar, 0, cr, rfl, HP.out.1, HP.out.2, (qr_done HB0.out KR.out KS.out HB.out HQ.out _ _ _ _).1, (qr_done HB0.out KR.out KS.out HB.out HR.out _ _ _ _).1, (qr_done HB0.out KR.out KS.out HB.out HR.out _ _ _ _).2⟩
    · go_wp2_with fail
      exact bodyPost_ret (v := .tuple #[.agg #[.bool (true != true), .slice aq mq cq], .agg #[.bool false, .slice ar 0 cr]]) (by simp [results, Tryz.results78, go_sem, q1, q2, q5, q6]) rfl ⟨(true != true), Q, aq, mq, cq, R, ar, 0, cr, rfl, HP.out.1, HP.out.2, (qr_done HB0.out KR.out KS.out HB.out HQ.out _ _ _ _).1, (qr_done HB0.out KR.out KS.out HB.out HR.out _ _ _ _).1, (qr_done HB0.out KR.out KS.out HB.out HR.out _ _ _ _).2⟩

set_option maxRecDepth 100000 in
set_option maxHeartbeats 8000000 in
theorem div_rest (b2 : Bool) (N1 N2 : Nat) (hd : 0 < N2) (hz : 0 < N1 % N2) (a1 a2 : Option Addr) (m1 m2 c1 c2 : Nat) (w : World) (h1 : NatAt w a1 m1 c1 N1) (h2 : NatAt w a2 m2 c2 N2) (l1 : m1 ≤ 900) (l2 : m2 ≤ 900) :
    Calls Tryz.prog 78 #[.agg #[.bool true, .slice a1 m1 c1], .agg #[.bool b2, .slice a2 m2 c2]] w (QRPost w (intD true N1 / intD b2 N2) (intD true N1 % intD b2 N2)) := by
  have hp := div_more (x := intD true N1) (y := intD b2 N2) (c := b2) (by rw [natAbs_intD]) (by rw [natAbs_intD]) (by cases b2 <;> simp [intD] <;> omega) (by rw [natAbs_intD, natAbs_intD]; exact hz)
  rw [natAbs_intD, natAbs_intD] at hp
  have hrl : N1 % N2 ≤ N2 := Nat.le_of_lt (Nat.mod_lt _ hd)
  have hql : N1 / N2 ≤ N1 := Nat.div_le_self _ _
  obtain ⟨W0, hW0, hb0, k1, k2, kR, kS⟩ := four_frame w true b2 a1 a2 m1 m2 c1 c2
  have cd := divide_any N1 N2 hd a1 a2 c1 c2 m1 m2 W0 (h1.below hb0 (Nat.le_refl _)) (h2.below hb0 (Nat.le_refl _)) l1 l2
  have hn1 := (grps_length_iff m1 N1).1 (Nat.le_of_eq h1.1)
  have hn2 := (grps_length_iff m2 N2).1 (Nat.le_of_eq h2.1)
  obtain ⟨X, hX⟩ : ∃ X, intD true N1 / intD b2 N2 = X := ⟨_, rfl⟩
  obtain ⟨Y, hY⟩ : ∃ X, intD true N1 % intD b2 N2 = X := ⟨_, rfl⟩
  obtain ⟨Q, hQ⟩ : ∃ X, N1 / N2 = X := ⟨_, rfl⟩
  obtain ⟨R, hR⟩ : ∃ X, N1 % N2 = X := ⟨_, rfl⟩
  rw [hX, hY, hQ, hR] at hp
  rw [hQ, hR] at cd
  rw [hX, hY]
  rw [hR] at hz hrl
  rw [hQ] at hql
  have kq2 := fun W (b : Below W0.heap.size W0 W) => (h2.below hb0 (Nat.le_refl _)).below b (Nat.le_refl _)
  have hall := fun W (b : Below W0.heap.size W0 W) => And.intro (num_cells (num_kept k1 b)) (num_cells (num_kept k2 b))
  have HALL := Lib.hid hall; have HQ2 := Lib.hid kq2
  have HP := Lib.hid hp; have CD := Lib.hid cd; have HW := Lib.hid hW0; have HB0 := Lib.hid hb0; have KR := Lib.hid kR; have KS := Lib.hid kS
  obtain ⟨⟨p1, p2, _, _⟩, ⟨p3, p4, _, _⟩⟩ := hall W0 (Below.refl _ _)
  have HLB := Lib.hid (And.intro (Nat.lt_of_le_of_lt hql hn1) (Nat.lt_of_le_of_lt hrl hn2))
  clear hp cd hW0 hb0 k1 k2 kR kS hall hX hY hQ hR h1 h2 hn1 hn2 hql kq2
  go_enter Tryz.func78, Tryz.ntmps78
  go_wp2_with (rw [HW.out])
  refine CD.out.mono ?_
  rintro e w5 ⟨aq, cq, mq, ar, cr, mr, rfl, hq, hr, hb⟩
  have hmr : (0 : Int) < (mr : Int) := by
    have := grps_nil_iff hr.1
    omega
  have hmq : mq ≤ 900 := by have := grps_length_le m1 Q HLB.out.1; have := hq.1; omega
  have hmr9 : mr ≤ 900 := by have := grps_length_le m2 R HLB.out.2; have := hr.1; omega
  have hone : ∀ W : World, NatAt (W.alloc (.cells #[.int .i64 1] 3)) (some ⟨W.heap.size, 0, none⟩) 1 1 1 := fun W => by
    have hg : grps 1 = [1] := by rw [grps_pos (by decide)]; rfl
    refine ⟨by rw [hg]; rfl, ?_⟩
    rw [hg]
    exact ⟨by simp, by simp, .inr ⟨W.heap.size, 0, rfl, by simp, new_num1 .i64 W 1 1 rfl _⟩⟩
  have b6 : Below w5.heap.size w5 (w5.alloc (.cells #[.int .i64 1] 3)) := (Below.refl _ _).alloc (Nat.le_refl _) _
  have cp := plus_any3 Q 1 (Q + 1) 1 (by omega) (by omega) (by omega) aq (some ⟨w5.heap.size, 0, none⟩) cq 1 mq 1 (w5.alloc (.cells #[.int .i64 1] 3)).drew
    ((hq.below b6 (Nat.le_refl _)).below (W' := (w5.alloc (.cells #[.int .i64 1] 3)).drew) (k := (w5.alloc (.cells #[.int .i64 1] 3)).heap.size) ⟨rfl, rfl, rfl, Nat.le_refl _, fun _ _ => rfl⟩ (Nat.le_refl _)) ((hone w5).below (W' := (w5.alloc (.cells #[.int .i64 1] 3)).drew) (k := (w5.alloc (.cells #[.int .i64 1] 3)).heap.size) ⟨rfl, rfl, rfl, Nat.le_refl _, fun _ _ => rfl⟩ (Nat.le_refl _)) (by omega) (by omega)
  have cm := fun W (b : Below w5.heap.size w5 W) => plus_any3 N2 R (N2 - R) (-1) (by omega) (by omega) (by omega) a2 ar c2 cr m2 mr W (HQ2.out W (below_of hb b)) (hr.below b (Nat.le_refl _)) (by omega) (by omega)
  have hc4 := fun W (b : Below w5.heap.size w5 W) => show W.cell? ⟨w.heap.size + 1, 1, none⟩ = some (.slice a2 m2 c2) from (HALL.out W (below_of hb b)).2.2.1
  have CP := Lib.hid cp; have CM := Lib.hid cm; have HC4 := Lib.hid hc4; have B6 := Lib.hid b6
  have r1 := (HALL.out w5 hb).1.1
  have HB := Lib.hid hb
  obtain ⟨G, hG⟩ : ∃ G, N2 - R = G := ⟨_, rfl⟩
  rw [hG] at CM HP
  clear hq hr hb p1 p2 p3 p4 CD cp cm hc4 b6 hone hG hrl hz
  go_wp2_with fail
  go_region_held3 (fun W => W.cell? ⟨w.heap.size + 1, 1, none⟩ = some (.slice a2 m2 c2))
    (first | exact HC4.out _ ⟨rfl, rfl, rfl, Nat.le_refl _, fun _ _ => rfl⟩ | exact HC4.out _ ⟨B6.out.os, B6.out.tape, B6.out.output, B6.out.size, B6.out.block⟩ | exact HC4.out _ hbP | exact HC4.out _ hbM)
    (first | (go_at_call 104; (with_reducible refine CP.out.mono ?_); (rintro e wP ⟨adP, cP, qP, rfl, hmP, hhP, hbP'⟩); have hbP : Below w5.heap.size w5 wP := below_of B6.out ⟨hbP'.os, hbP'.tape, hbP'.output, hbP'.size, hbP'.block⟩) | (go_at_call 104; (with_reducible refine (CM.out _ ?_).mono ?_); exact hbP; (rintro e wM ⟨adM, cM, qM, rfl, hmM, hhM, hbM'⟩); have hbM := below_of hbP hbM'))
  all_goals (
    have HBM := Lib.hid (below_of HB.out hbM)
    obtain ⟨⟨s1, s2, _, _⟩, ⟨s3, s4, _, _⟩⟩ := HALL.out wM HBM.out
    obtain ⟨q1, q2, q3, q4⟩ := num_cells (num_kept KR.out HBM.out)
    obtain ⟨q5, q6, q7, q8⟩ := num_cells (num_kept KS.out HBM.out)
    have HNP := Lib.hid (show NatAt wM adP qP cP (Q + 1) from ⟨hmP, hhP.below hbM' (Nat.le_refl _)⟩)
    have HNM := Lib.hid (show NatAt wM adM qM cM G from ⟨hmM, hhM⟩)
    clear hmP hhP hmM hhM hbM hbM' hbP hbP'
    go_wp2_with fail
    exact bodyPost_ret (v := .tuple #[.agg #[.bool (true != b2), .slice adP qP cP], .agg #[.bool false, .slice adM qM cM]]) (by simp [results, Tryz.results78, go_sem, q1, q2, q5, q6]) rfl ⟨(true != b2), Q + 1, adP, qP, cP, G, adM, qM, cM, rfl, HP.out.1, HP.out.2, (qr_done HB0.out KR.out KS.out HBM.out HNP.out _ _ _ _).1, (qr_done HB0.out KR.out KS.out HBM.out HNM.out _ _ _ _).1, (qr_done HB0.out KR.out KS.out HBM.out HNM.out _ _ _ _).2⟩)
theorem divN_any (b1 b2 : Bool) (N1 N2 : Nat) (hd : 0 < N2) (a1 a2 : Option Addr) (m1 m2 c1 c2 : Nat) (w : World) (h1 : NatAt w a1 m1 c1 N1) (h2 : NatAt w a2 m2 c2 N2) (l1 : m1 ≤ 900) (l2 : m2 ≤ 900) :
    Calls Tryz.prog 78 #[.agg #[.bool b1, .slice a1 m1 c1], .agg #[.bool b2, .slice a2 m2 c2]] w (QRPost w (intD b1 N1 / intD b2 N2) (intD b1 N1 % intD b2 N2)) := by
  by_cases hz : b1 = false ∨ N1 % N2 = 0
  · exact div_less b1 b2 N1 N2 hd hz a1 a2 m1 m2 c1 c2 w h1 h2 l1 l2
  · obtain rfl : b1 = true := by
      cases b1
      · exact (hz (.inl rfl)).elim
      · rfl
    exact div_rest b2 N1 N2 hd (Nat.pos_of_ne_zero (fun e => hz (.inr e))) a1 a2 m1 m2 c1 c2 w h1 h2 l1 l2
end Go.Proofs.YtlcibnmcannapaaGreatDoor
