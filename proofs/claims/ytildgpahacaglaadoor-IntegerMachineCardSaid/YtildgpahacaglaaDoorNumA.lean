/-
  The contracts of package integer's numbers.
-/
import Derived.Test.YtildgpahacaglaaDoorRootN
import Derived.Test.YtildgpahacaglaaDoorGcdN
import Derived.Test.YtildgpahacaglaaDoorPrefix
namespace Go.Proofs.YtildgpahacaglaaDoor
open Go Go.Proofs Go.RowKit Go.Lib

theorem minus_textI (x : Int) : minusB (textI x) = decide (x < 0) ∧ behindB (textI x) = byteL (textN x.natAbs) := by
  by_cases hx : x < 0
  · have e : textI x = byteL (45 :: textN x.natAbs) := by unfold textI; rw [if_pos hx]; rfl
    have hl : bytesL (byteL (45 :: textN x.natAbs)) = 45 :: textN x.natAbs := by rw [← e, bytesL_textI, if_pos hx]; rfl
    have hm : minusB (textI x) = true := by unfold minusB; rw [e, hl]; rfl
    refine ⟨by rw [hm, decide_eq_true hx], ?_⟩
    rw [behind_true hm, e, extract_one]
  · have e : textI x = byteL (textN x.natAbs) := by unfold textI; rw [if_neg hx]; rfl
    have hl : bytesL (byteL (textN x.natAbs)) = textN x.natAbs := bytesL_byteL (textN_lt _)
    have hm : minusB (textI x) = false := by
      unfold minusB
      rw [e, hl, decide_eq_false_iff_not]
      intro h
      have hmem : 45 ∈ textN x.natAbs := by
        cases h2 : textN x.natAbs with
        | nil => rw [h2] at h; cases h
        | cons a l => rw [h2] at h; simp at h; subst h; simp
      have := textN_dig _ _ hmem
      omega
    refine ⟨by rw [hm, decide_eq_false hx], ?_⟩
    rw [behind_false hm, e]
theorem valid_behind {s : ByteArray} (h : validB s = true) : minusB s = decide (numB s < 0) ∧ behindB s = byteL (textN (numB s).natAbs) := by
  have e := text_valid h
  have := minus_textI (numB s)
  rw [← e.2] at this
  exact this

theorem bcell {W w1 : World} (hb : Below W.heap.size W w1) : (∀ b o, b < W.heap.size → w1.cell? ⟨b, o, none⟩ = W.cell? ⟨b, o, none⟩) ∧ (∀ b o, b < W.heap.size → w1.frozen? ⟨b, o, none⟩ = W.frozen? ⟨b, o, none⟩) :=
  ⟨fun b o h => hb.cell (p := ⟨b, o, none⟩) h, fun b o h => hb.frozen (p := ⟨b, o, none⟩) h⟩

theorem apart_num {W : World} {ad a' : Option Addr} {m c n m' c' B : Nat} {b : Bool} {t : TypeId} (h : NatAt W ad m c n) (hB : W.heap[B]? = some (.cells #[.bool b, .slice a' m' c'] t)) : Apart ad m B := by
  by_cases hm : m = 0
  · exact .inl hm
  · right
    rintro p rfl
    obtain ⟨e1, h2⟩ := h
    obtain ⟨g, o, e, hg, hs⟩ := h2.at (by omega)
    cases e
    show g ≠ B
    rintro rfl
    have h0 := hs 0 (by omega)
    rw [Nat.add_zero] at h0
    have hcell : ∀ o, W.cell? ⟨g, o, none⟩ = #[Value.bool b, Value.slice a' m' c'][o]? := fun o => by simp [World.cell?, hB]
    rw [hcell] at h0
    match o, h0 with
    | 0, h0 => simp at h0
    | 1, h0 => simp at h0
    | o + 2, h0 => simp at h0
theorem num_kept {w w2 : World} {b : Bool} {a' : Option Addr} {m' c' : Nat} {t : TypeId} {B : Nat} (hB : w.heap[B]? = some (.cells #[.bool b, .slice a' m' c'] t)) (hb : Below w.heap.size w w2) : w2.heap[B]? = some (.cells #[.bool b, .slice a' m' c'] t) :=
  (hb.block B (Array.getElem?_eq_some_iff.1 hB).1).trans hB

/-- A number is returned. -/
def NumPost (w : World) (x : Int) (e : Ending) (w' : World) : Prop :=
  ∃ neg N ad m cap, e = .returned (.agg #[.bool neg, .slice ad m cap]) ∧ intD neg N = x ∧ NatAt w' ad m cap N ∧ Below w.heap.size w w'
theorem num_cells {W : World} {B : Nat} {b : Bool} {a : Option Addr} {m c : Nat} {t : TypeId} (h : W.heap[B]? = some (.cells #[.bool b, .slice a m c] t)) :
    W.cell? ⟨B, 0, none⟩ = some (.bool b) ∧ W.cell? ⟨B, 1, none⟩ = some (.slice a m c) ∧ W.frozen? ⟨B, 0, none⟩ = false ∧ W.frozen? ⟨B, 1, none⟩ = false := by
  simp [World.cell?, World.frozen?, h]
theorem num_frame (w : World) (b1 b2 : Bool) (a1 a2 : Option Addr) (m1 m2 c1 c2 : Nat) : ∃ W0, ((w.alloc (.cells #[.bool b1, .slice a1 m1 c1] 51)).alloc (.cells #[.bool b2, .slice a2 m2 c2] 51)).alloc (.cells #[.bool false, .slice none 0 0] 51) = W0 ∧
    Below w.heap.size w W0 ∧ W0.heap[w.heap.size]? = some (.cells #[.bool b1, .slice a1 m1 c1] 51) ∧ W0.heap[w.heap.size + 1]? = some (.cells #[.bool b2, .slice a2 m2 c2] 51) ∧ W0.heap[w.heap.size + 2]? = some (.cells #[.bool false, .slice none 0 0] 51) := by
  refine ⟨_, rfl, (((Below.refl _ _).alloc (Nat.le_refl _) _).alloc (by simp) _).alloc (by simp; omega) _, ?_, ?_, ?_⟩
  · rw [Below.heap_alloc _ _ _ (by simp; omega), Below.heap_alloc _ _ _ (by simp)]
    exact heap_alloc_new _ _
  · rw [Below.heap_alloc _ _ _ (by simp)]
    have := heap_alloc_new (w.alloc (.cells #[.bool b1, .slice a1 m1 c1] 51)) (.cells #[.bool b2, .slice a2 m2 c2] 51)
    rw [World.size_alloc] at this
    exact this
  · have := heap_alloc_new ((w.alloc (.cells #[.bool b1, .slice a1 m1 c1] 51)).alloc (.cells #[.bool b2, .slice a2 m2 c2] 51)) (.cells #[.bool false, .slice none 0 0] 51)
    rw [World.size_alloc, World.size_alloc] at this
    exact this
theorem num_done {w W0 W : World} {R : Nat} {t : TypeId} (b0 : Below w.heap.size w W0) (hR : W0.heap[R]? = some (.cells #[.bool false, .slice none 0 0] t)) (hn : w.heap.size ≤ R) (b : Below W0.heap.size W0 W) {ad : Option Addr} {m c n : Nat} (h : NatAt W ad m c n) (x y : Value) :
    NatAt ((W.setCell ⟨R, 0, none⟩ x).setCell ⟨R, 1, none⟩ y) ad m c n ∧ Below w.heap.size w ((W.setCell ⟨R, 0, none⟩ x).setCell ⟨R, 1, none⟩ y) := by
  have ha := apart_num h (num_kept hR b)
  exact ⟨(h.store ha 0 _).store ha 1 _, ((below_of b0 b).setCell (p := ⟨R, 0, none⟩) hn _).setCell (p := ⟨R, 1, none⟩) hn _⟩

set_option maxRecDepth 100000 in
set_option maxHeartbeats 4000000 in
theorem numberOf_any (s : ByteArray) (hv : validB s = true) (w : World) :
    Calls Tryd.prog 31 #[.string s] w fun e w' => ∃ ad m cap, e = .returned (.agg #[.bool (decide (numB s < 0)), .slice ad m cap]) ∧ NatAt w' ad m cap (numB s).natAbs ∧ Below w.heap.size w w' := by
  obtain ⟨h1, h2⟩ := valid_behind hv
  have hfit := (text_valid hv).1
  have hs9 := fits_size hfit
  rw [← (text_valid hv).2] at hs9
  have hlb : bytesL (byteL (textN (numB s).natAbs)) = textN (numB s).natAbs := bytesL_byteL (textN_lt _)
  have cc := fun w => cut_any s (by omega) w
  rw [h1, h2] at cc
  have hlen : (byteL (textN (numB s).natAbs)).size ≤ 1000 := by
    have h3 : (textI (numB s)).size ≤ 1000 := fits_size hfit
    unfold textI at h3
    rw [byteL_size, List.length_append] at h3
    rw [byteL_size]
    omega
  have cn := fun W => naturalOf_any (byteL (textN (numB s).natAbs)) (by rw [hlb]; exact textN_dig _) hlen W
  rw [hlb, (textN_plain hfit).2] at cn
  obtain ⟨N, hN⟩ : ∃ N, (numB s).natAbs = N := ⟨_, rfl⟩
  obtain ⟨T, hT⟩ : ∃ T, byteL (textN N) = T := ⟨_, rfl⟩
  obtain ⟨B, hB⟩ : ∃ B, decide (numB s < 0) = B := ⟨_, rfl⟩
  rw [hN] at cn cc
  rw [hT] at cn cc
  rw [hB] at cc
  rw [hN, hB]
  have CC := Lib.hid cc; have CN := Lib.hid cn
  clear cc cn hlen hlb hs9 hfit h1 h2 hN hT hB
  go_enter Tryd.func31, Tryd.ntmps31
  go_wp2_with fail
  refine (CC.out _).mono ?_
  rintro e w1 ⟨rfl, rfl⟩
  go_wp2_with fail
  refine (CN.out _).mono ?_
  rintro e w2 ⟨ad, cap, m, rfl, hm, hh, hb⟩
  obtain ⟨hc, hf⟩ := bcell hb
  have hz : w.heap.size < w2.heap.size := by have := hb.size; simp at this; omega
  have HH := Lib.hid hh; have HB := Lib.hid hb
  clear hh hb
  go_wp2_with fail
  have hN2 := num_kept (B := w.heap.size) (heap_alloc_new w (.cells #[.bool false, .slice none 0 0] 51)) HB.out
  have hna : NatAt w2 ad m cap N := ⟨hm, HH.out⟩
  have hap := apart_num hna hN2
  refine bodyPost_ret (v := .agg #[.bool B, .slice ad m cap]) (by simp [results, Tryd.results31, go_sem, hc]) rfl ⟨ad, m, cap, rfl, (hna.store hap 0 _).store hap 1 _, ?_⟩
  exact ((((Below.refl _ w).alloc (Nat.le_refl _) _).trans (HB.out.mono (by simp))).setCell (p := ⟨w.heap.size, 0, none⟩) (Nat.le_refl _) _).setCell (p := ⟨w.heap.size, 1, none⟩) (Nat.le_refl _) _
end Go.Proofs.YtildgpahacaglaaDoor
