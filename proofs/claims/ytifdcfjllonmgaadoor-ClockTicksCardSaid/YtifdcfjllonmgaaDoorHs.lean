/-
  Layer 8: the contract of the reference's Clocks.
-/
import Derived.Test.YtifdcfjllonmgaaDoorHr
namespace Go.Proofs.YtifdcfjllonmgaaDoor
open Go Go.Proofs Go.RowKit Go.Lib

/-- A clock as it lies in memory. -/
structure Cv where
  dr : Int
  ad : Option Addr
  n : Nat
  c : Nat
def Cv.cells (x : Cv) : List Value := [.int .i64 x.dr, .slice x.ad x.n x.c]
def Cv.val (x : Cv) : Value := .agg #[.int .i64 x.dr, .slice x.ad x.n x.c]
def KK : RowK Cv where
  n := 2
  bytes := 32
  et := 50
  st := 51
  zero := .agg #[.int .i64 0, .slice none 0 0]
  cs := Cv.cells
  len := fun _ => rfl
  one := fun x u hu => by
    simp [Cv.cells] at hu
    rcases hu with rfl | rfl <;> rfl
  pos := by decide
  bb := by decide
  und := by kernel_rfl
  elem := by kernel_rfl
  info := by kernel_rfl
  zs := rfl
def anA (n : Int) (i : Nat) : An := ⟨500 + pick8 (n.tdiv (1 + (i : Nat))) 500, pick8 (n.tdiv (3 + (i : Nat))) 3000000⟩
def anZ (n : Int) (i : Nat) : An := ⟨520 + pick8 (n.tdiv 7) 500, 10000000 + pick8 (n.tdiv (2 + (i : Nat))) 20000000⟩
def clkN (f : Fl) (n : Int) (i : Nat) : Cl := ⟨f.dr.getD i 0, if pick8 (n.tdiv (5 + (i : Nat))) 2 = 1 then [anA n i, anZ n i] else [anA n i]⟩
/-- A clock in a row: its anchors lie in a block of their own. -/
def CkV (W : World) (base : Nat) (row : Option Nat) (v : Cv) (c : Cl) : Prop := v.dr = c.dr ∧ v.n = c.an.length ∧ ∃ b, v.ad = some ⟨b, 0, none⟩ ∧ row ≠ some b ∧ base ≤ b ∧ b < W.heap.size ∧ CellsAt W b (KA.vs c.an) ∧ c.an ≠ [] ∧ v.n ≤ v.c
theorem KA.vs_cons (a : An) (l : List An) : KA.vs (a :: l) = .int .i64 a.a :: (.int .i64 a.t :: KA.vs l) := rfl
theorem CellsAt.rnA {W : World} {base g : Nat} {l : List An} (h : CellsAt W g (KA.vs l)) (hb : base ≤ g) (hg : g < W.heap.size) : RN KA W base (some ⟨g, 0, none⟩) l := by
  refine .inr ⟨g, 0, rfl, hb, hg, fun i hi j hj => ?_⟩
  have hl := KA.vs_length l
  have hij : KA.n * i + j < (KA.vs l).length := by
    rw [hl]
    have : KA.n * (i + 1) ≤ KA.n * l.length := Nat.mul_le_mul_left _ hi
    rw [Nat.mul_add, Nat.mul_one, Nat.mul_comm KA.n l.length] at this
    omega
  rw [Nat.zero_add, (h _ hij).1, ← KA.vs_get l i j hi hj, List.getElem?_eq_getElem hij]
theorem CkV.ck {W : World} {base : Nat} {row : Option Nat} {v : Cv} {c : Cl} (h : CkV W base row v c) : CkAt W v.val c := by
  obtain ⟨h1, h2, b, h3, _, h5, h6, h7, _⟩ := h
  refine ⟨v.ad, v.c, ?_, ?_⟩
  · unfold Cv.val; rw [h1, h2]
  · rw [h3]; exact (h7.rnA h5 h6).rl
theorem CkV.up {W W' : World} {base n : Nat} {row : Option Nat} {v : Cv} {c : Cl} (h : CkV W base row v c) (hb : Below n W W') (hn : W.heap.size ≤ n) : CkV W' base row v c := by
  obtain ⟨h1, h2, b, h3, h4, h5, h6, h7, h8⟩ := h
  exact ⟨h1, h2, b, h3, h4, h5, Nat.lt_of_lt_of_le h6 hb.size, h7.up hb (by omega), h8⟩
theorem CkV.grown {W W' : World} {base : Nat} {row row' : Option Nat} {v : Cv} {c : Cl} (h : CkV W base row v c) (hg : W.grownBy W' row) (hr : row' = row ∨ row' = some W.heap.size) : CkV W' base row' v c := by
  obtain ⟨h1, h2, b, h3, h4, h5, h6, h7, h8⟩ := h
  refine ⟨h1, h2, b, h3, ?_, h5, Nat.lt_of_lt_of_le h6 hg.size, ?_, h8⟩
  · rcases hr with rfl | rfl
    · exact h4
    · intro e; injection e with e; omega
  · cases hc : c.an with
    | nil => exact absurd hc h8.1
    | cons a l =>
      rw [hc, KA.vs_cons] at h7
      exact h7.grown hg (fun e => h4 e.symm)
theorem RowK.new {T : Type} (K : RowK T) (W : World) (base : Nat) (l : List T) (hb : base ≤ W.heap.size) (hl : l.length ≤ maxLen) (vs : List Value) (hvs : vs = K.vs l) (t : TypeId) (ht : t = K.et) (n : Nat) (hn : n = l.length) :
    Own K (W.alloc (.cells vs.toArray t)) base (.slice (some ⟨W.heap.size, 0, none⟩) n n) l := by
  subst hvs ht hn
  refine ⟨K.vs_length l, .inr ⟨W.heap.size, l.length, (K.vs l).toArray, rfl, hb, heap_alloc_new W _, Nat.le_refl _, hl, by simp [K.vs_length], by rw [List.take_of_length_le (by simp [K.vs_length])]⟩⟩
theorem tdiv1 {n : Int} (h0 : -9223372036854775808 ≤ n) (h1 : n ≤ 9223372036854775807) (k : Int) (hk : 1 ≤ k) : -9223372036854775808 ≤ n.tdiv k ∧ n.tdiv k ≤ 9223372036854775807 := by
  rcases Int.lt_or_le 1 k with h | h
  · have := tdiv8 h0 h1 k (by omega); omega
  · obtain rfl : k = 1 := by omega
    rw [Int.tdiv_one]; exact ⟨h0, h1⟩
/-- Clocks in new blocks. -/
def CksPost (w : World) (f : Fl) (n : Int) (e : Ending) (w' : World) : Prop := ∃ ad c row, ∃ l : List Cv, e = .returned (.slice ad l.length c) ∧ l.length ≤ c ∧ RN KK w' w.heap.size ad l ∧ l.length = f.dr.length ∧ (∀ i (hi : i < l.length), CkV w' w.heap.size row l[i] (clkN f n i)) ∧ Below w.heap.size w w'
theorem Own.cells {T : Type} {K : RowK T} {W : World} {base g n c : Nat} {l : List T} (h : Own K W base (.slice (some ⟨g, 0, none⟩) n c) l) : CellsAt W g (K.vs l) := by
  obtain ⟨ad, c2, e, _⟩ := h.form
  injection e with e1 e2 e3
  subst e2 e3
  exact fun i hi => ⟨(World.ownsRow.cellAt h _ (by rw [K.vs_length] at hi; exact hi)).trans (List.getElem?_eq_getElem hi), World.ownsRow.frozenAt h _⟩
theorem cks_step {f : Fl} {n : Int} {B : Nat} {wr w7 w8 : World} {u v8 : Value} {l : List Cv} {D : Int} {g7 NN cp7 : Nat} {LL : List An} {o : Obj} (hck : ∀ j (hj : j < l.length), CkV wr B u.ownBlock l[j] (clkN f n j))
    (hu : ∀ j, u.ownBlock = some j → j < wr.heap.size) (hb : Below wr.heap.size wr w7) (ko : Own KA w7 wr.heap.size (.slice (some ⟨g7, 0, none⟩) NN cp7) LL) (hNN : NN = LL.length) (hLL : LL ≠ []) (hB : B ≤ wr.heap.size) (hcl : clkN f n l.length = ⟨D, LL⟩)
    (hg : (w7.alloc o).grownBy w8 u.ownBlock) (hk : v8.ownBlock = u.ownBlock ∨ v8.ownBlock = some (w7.alloc o).heap.size) :
    ∀ j (hj : j < (l ++ [(⟨D, some ⟨g7, 0, none⟩, NN, cp7⟩ : Cv)]).length), CkV w8 B v8.ownBlock (l ++ [(⟨D, some ⟨g7, 0, none⟩, NN, cp7⟩ : Cv)])[j] (clkN f n j) := by
  intro j hj
  have hz : (w7.alloc o).heap.size = w7.heap.size + 1 := by simp
  have hcap : NN ≤ cp7 := by
    obtain ⟨ad, cq, eq, hq⟩ := ko.form
    injection eq with e1 e2 e3
    omega
  obtain ⟨gv, gc, eg, _, hg1, hg2⟩ := ko.block (List.length_pos_iff.2 hLL)
  injection eg with eg
  injection eg with eg
  injection eg with eg
  subst eg
  have ba : Below w7.heap.size w7 (w7.alloc o) := (Below.refl _ _).alloc (Nat.le_refl _) _
  by_cases hjl : j < l.length
  · rw [List.getElem_append_left hjl]
    exact (((hck j hjl).up hb (Nat.le_refl _)).up ba (Nat.le_refl _)).grown hg hk
  · have e : j = l.length := by rw [List.length_append] at hj; simp at hj; omega
    subst e
    have e2 : (l ++ [(⟨D, some ⟨g7, 0, none⟩, NN, cp7⟩ : Cv)])[l.length]'hj = ⟨D, some ⟨g7, 0, none⟩, NN, cp7⟩ := by simp
    rw [e2, hcl]
    have hne : u.ownBlock ≠ some g7 := fun e => by have := hu _ e; omega
    refine ⟨rfl, hNN, g7, rfl, ?_, by omega, by have := hg.size; omega, ?_, hLL, hcap⟩
    · rcases hk with h | h
      · rw [h]; exact hne
      · rw [h, hz]; intro e; injection e with e; omega
    · have hc := ko.cells.up ba hg2
      cases LL with
      | nil => exact absurd rfl hLL
      | cons a L => exact CellsAt.grown (v := .int .i64 a.a) (vs := .int .i64 a.t :: KA.vs L) hc hg (fun e => hne e.symm)
set_option maxRecDepth 100000 in
set_option maxHeartbeats 8000000 in
theorem clocksR_any (v : Value) (f : Fl) (n : Int) (hl : f.dr.length ≤ 6) (h0 : -9223372036854775808 ≤ n) (h1 : n ≤ 9223372036854775807) (w : World) (hf : FlAt w v f) :
    Calls Tryd.prog 25 #[v, .int .i64 n] w (CksPost w f n) := by
  have HFA := Lib.hid (fun W (b : Below w.heap.size w W) => hf.below b)
  obtain ⟨x1, c1, x2, c2, x3, c3, rfl, hI, _, _⟩ := hf
  have HI := Lib.hid hI
  have HP := Lib.hid (fun (k : Int) (hk : 1 ≤ k) (m : Int) (hm : 2 ≤ m) (hm2 : m ≤ 100000000) W => (pickR8_any (n.tdiv k) m (tdiv1 h0 h1 k hk).1 (tdiv1 h0 h1 k hk).2 (by omega) (by omega) W).mono fun e w2 h => And.intro h.1 h.2.symm)
  have HW := Lib.hid (fun (k : Int) (hk : 1 ≤ k) => wrapq8 (tdiv1 h0 h1 k hk))
  obtain ⟨w1, V1, Z1, K1, B1⟩ := lay8 w [.slice x1 f.dr.length c1, .int .i64 f.lat, .int .i64 f.lia, .slice x2 f.sv.length c2, .slice x3 f.tm.length c3] 24
  clear hI
  go_enter Tryd.func25, Tryd.ntmps25
  go_wp2_with fail
  have HK1 := Lib.hid K1
  have HB1 := Lib.hid B1
  clear K1 B1 V1
  go_loopw [5, 6] (fun u i wr => ∃ k : Nat, k ≤ f.dr.length ∧ i = .int .i64 k ∧ Hid (∃ l : List Cv, Own KK wr (w.heap.size + 1) u l ∧ l.length = k ∧ ∀ j (hj : j < l.length), CkV wr (w.heap.size + 1) u.ownBlock l[j] (clkN f n j)) ∧ Hid (Below (w.heap.size + 1) w1 wr)) (fun _ i _ => f.dr.length - (RowKit.intOf i).toNat)
  case atStart => exact ⟨0, Nat.zero_le _, rfl, Lib.hid ⟨[], Own.nil _ _ _, rfl, fun j hj => absurd hj (Nat.not_lt_zero _)⟩, Lib.hid (Below.refl _ _)⟩
  case round =>
    obtain ⟨k, hk, rfl, HX, HB⟩ := hrel
    have hz : w.heap.size + 1 ≤ wr.heap.size := by have := HB.out.size; omega
    have HKR := Lib.hid (HK1.out.up HB.out (by omega))
    have r0 := (HKR.out 0 (by simp)).1
    simp only [List.getElem_cons_zero] at r0
    by_cases hlt : k < f.dr.length
    · have hki : (k : Int) < (f.dr.length : Int) := by omega
      have HLT := Lib.hid hlt
      obtain ⟨fb, fo, rfl, hfb, hfc⟩ := HI.out.int k hlt
      have hik := fun W => at_int8 fb fo f.dr.length c1 k hlt W
      have hd : f.dr.getD k 0 = f.dr[k]'hlt := by rw [List.getD_eq_getElem?_getD, List.getElem?_eq_getElem hlt]; rfl
      rw [← hd] at hfc
      have HFC := Lib.hid (fun W (b : Below wr.heap.size wr W) => hfc W (HB1.out.trans ((HB.out.mono (by omega)).trans (b.mono (by omega)))))
      have HKR2 := Lib.hid (fun W (b : Below wr.heap.size wr W) => show W.cell? ⟨w.heap.size, 0, none⟩ = some (.slice (some ⟨fb, fo, none⟩) f.dr.length c1) from (HKR.out.below b 0 (by simp)).1)
      have q1 := HW.out (1 + (k : Int)) (by omega)
      have q3 := HW.out (3 + (k : Int)) (by omega)
      have q5 := HW.out (5 + (k : Int)) (by omega)
      have q2 := HW.out (2 + (k : Int)) (by omega)
      have q7 := HW.out 7 (by omega)
      have P1 := Lib.hid (HP.out (1 + (k : Int)) (by omega) 500 (by decide) (by decide))
      have P3 := Lib.hid (HP.out (3 + (k : Int)) (by omega) 3000000 (by decide) (by decide))
      have P5 := Lib.hid (HP.out (5 + (k : Int)) (by omega) 2 (by decide) (by decide))
      have P7 := Lib.hid (HP.out 7 (by decide) 500 (by decide) (by decide))
      have P2 := Lib.hid (HP.out (2 + (k : Int)) (by omega) 20000000 (by decide) (by decide))
      have b1 := And.intro (pick8_lo (c := n.tdiv (1 + (k : Int))) (n := 500) (by decide)) (pick8_hi (c := n.tdiv (1 + (k : Int))) (n := 500) (by decide))
      have b7 := And.intro (pick8_lo (c := n.tdiv 7) (n := 500) (by decide)) (pick8_hi (c := n.tdiv 7) (n := 500) (by decide))
      have b2 := And.intro (pick8_lo (c := n.tdiv (2 + (k : Int))) (n := 20000000) (by decide)) (pick8_hi (c := n.tdiv (2 + (k : Int))) (n := 20000000) (by decide))
      obtain ⟨b10, b11⟩ := b1; obtain ⟨b70, b71⟩ := b7; obtain ⟨b20, b21⟩ := b2
      have HCL := Lib.hid (show clkN f n k = ⟨f.dr.getD k 0, if pick8 (n.tdiv (5 + (k : Int))) 2 = 1 then [(⟨500 + pick8 (n.tdiv (1 + (k : Int))) 500, pick8 (n.tdiv (3 + (k : Int))) 3000000⟩ : An), (⟨520 + pick8 (n.tdiv 7) 500, 10000000 + pick8 (n.tdiv (2 + (k : Int))) 20000000⟩ : An)] else [(⟨500 + pick8 (n.tdiv (1 + (k : Int))) 500, pick8 (n.tdiv (3 + (k : Int))) 3000000⟩ : An)]⟩ from rfl)
      generalize f.dr.getD k 0 = D at *
      generalize pick8 (n.tdiv (1 + (k : Int))) 500 = A1 at *
      generalize pick8 (n.tdiv (3 + (k : Int))) 3000000 = A3 at *
      generalize pick8 (n.tdiv (5 + (k : Int))) 2 = A5 at *
      generalize pick8 (n.tdiv 7) 500 = A7 at *
      generalize pick8 (n.tdiv (2 + (k : Int))) 20000000 = A2 at *
      have wa1 := wrapq8 (x := 1 + (k : Int)) (by omega); have wa3 := wrapq8 (x := 3 + (k : Int)) (by omega); have wa5 := wrapq8 (x := 5 + (k : Int)) (by omega); have wa2 := wrapq8 (x := 2 + (k : Int)) (by omega)
      have wb1 : ¬ (1 + (k : Int)) = 0 := by omega
      have wb3 : ¬ (3 + (k : Int)) = 0 := by omega
      have wb5 : ¬ (5 + (k : Int)) = 0 := by omega
      have wb2 : ¬ (2 + (k : Int)) = 0 := by omega
      have wc1 := wrapq8 (x := 500 + A1) (by omega); have wc7 := wrapq8 (x := 520 + A7) (by omega); have wc2 := wrapq8 (x := 10000000 + A2) (by omega)
      clear hd hfc hlt hfb
      go_upto_region 5 with fail
      go_cut [7] from 15 to 33 (fun s7 wx => ∃ c0 g, s7 = .pointer (some ⟨c0, 0, none⟩) ∧ Hid (CellsAt wx c0 [.int .i64 D, .slice (some ⟨g, 0, none⟩) 1 1] ∧ Own KA wx wr.heap.size (.slice (some ⟨g, 0, none⟩) 1 1) [(⟨500 + A1, A3⟩ : An)] ∧ wr.heap.size ≤ c0 ∧ c0 < wx.heap.size ∧ c0 ≠ g) ∧ Hid (Below wr.heap.size wr wx))
      case first =>
        refine wp_region_noPanic ?_
        refine wp_region_Kx (C := Grew wr) [20] 20 #[false, false, false, false, false, false, false, false, false, false, false, false, false, false, false, false, false, false, false, false, false] (by kernel_rfl) (by kernel_rfl) (by kernel_rfl) (grew0 _) ?_
        intro wx hwx
        obtain ⟨w6, V6, Z6, K6, B6⟩ := lay8 wx [.int .i64 (500 + A1), .int .i64 A3] 60
        obtain ⟨w7, V7, Z7, K7, B7⟩ := lay8 w6 [.int .i64 0, .slice none 0 0] 50
        obtain ⟨w8, V8, Z8, K8, B8⟩ := lay8 wx [.int .i64 0, .slice none 0 0] 50
        obtain ⟨w9, V9, Z9, K9, B9⟩ := lay8 w8 [.int .i64 (500 + A1), .int .i64 A3] 60
        have g6 : Grew wr w6 := by rw [← V6]; exact hwx.alloc _
        have g7 : Grew wr w7 := by rw [← V7]; exact g6.alloc _
        have g8 : Grew wr w8 := by rw [← V8]; exact hwx.alloc _
        have g9 : Grew wr w9 := by rw [← V9]; exact g8.alloc _
        have O6 := Lib.hid (show Own KA w6 wr.heap.size (.slice (some ⟨wx.heap.size, 0, none⟩) 1 1) [(⟨500 + A1, A3⟩ : An)] by rw [← V6]; exact KA.new wx wr.heap.size [(⟨500 + A1, A3⟩ : An)] hwx.below.size (by unfold maxLen; simp) [.int .i64 (500 + A1), .int .i64 A3] rfl 60 rfl 1 rfl)
        have O9 := Lib.hid (show Own KA w9 wr.heap.size (.slice (some ⟨wx.heap.size + 1, 0, none⟩) 1 1) [(⟨500 + A1, A3⟩ : An)] by rw [← Z8, ← V9]; exact KA.new w8 wr.heap.size [(⟨500 + A1, A3⟩ : An)] g8.below.size (by unfold maxLen; simp) [.int .i64 (500 + A1), .int .i64 A3] rfl 60 rfl 1 rfl)
        have O7 := Lib.hid (O6.out.below B7 (Nat.le_refl _))
        rw [Z6] at K7 Z7 B7
        rw [Z8] at Z9 K9 B9
        have H7 := Lib.hid g7.below; have H9 := Lib.hid g9.below
        have hs := hwx.below.size
        obtain ⟨k0, k1⟩ := K7 0 (by simp)
        obtain ⟨k2, k3⟩ := K7 1 (by simp)
        have K8 := K8.up B9 (by omega)
        obtain ⟨k4, k5⟩ := K8 0 (by simp)
        obtain ⟨k6, k7⟩ := K8 1 (by simp)
        have K7 := Lib.hid K7; have K8 := Lib.hid K8; have K6 := Lib.hid K6; have K9 := Lib.hid K9
        refine wpAnyK_ex (i := 0) rfl (by kernel_rfl) (listed' := #[true, false, false, false, false, false, false, false, false, false, false, false, false, false, false, false, false, false, false, false, false]) rfl (fun _ _ _ _ _ h => h) hwx ?_
        apply Exists.intro
        refine ⟨⟨by rfl, fun wy hw => ?_⟩, ?_⟩
        · (have bw := hw.below; have f0 := HKR2.out _ bw; have f1 := HFC.out _ bw; go_simp; try (first | (with_reducible rfl) | (with_reducible exact ⟨rfl, rfl⟩)))
        try simp only [Act.put]
        refine wpAnyK_ex (i := 1) rfl (by kernel_rfl) (listed' := #[true, true, false, false, false, false, false, false, false, false, false, false, false, false, false, false, false, false, false, false, false]) rfl (fun _ _ _ _ _ h => h) hwx ?_
        apply Exists.intro
        refine ⟨⟨by rfl, fun wy hw => ?_⟩, ?_⟩
        · (have bw := hw.below; have f0 := HKR2.out _ bw; have f1 := HFC.out _ bw; go_simp; try (first | (with_reducible rfl) | (with_reducible exact ⟨rfl, rfl⟩)))
        try simp only [Act.put]
        refine wpAnyK_ex (i := 2) rfl (by kernel_rfl) (listed' := #[true, true, true, false, false, false, false, false, false, false, false, false, false, false, false, false, false, false, false, false, false]) rfl (fun _ _ _ _ _ h => h) hwx ?_
        apply Exists.intro
        refine ⟨⟨by rfl, fun wy hw => ?_⟩, ?_⟩
        · (have bw := hw.below; have f0 := HKR2.out _ bw; have f1 := HFC.out _ bw; go_simp; try (first | (with_reducible rfl) | (with_reducible exact ⟨rfl, rfl⟩)))
        try simp only [Act.put]
        refine wpAnyK_ex (i := 3) rfl (by kernel_rfl) (listed' := #[true, true, true, true, false, false, false, false, false, false, false, false, false, false, false, false, false, false, false, false, false]) rfl (fun _ _ _ _ _ h => h) hwx ?_
        apply Exists.intro
        refine ⟨⟨by rfl, fun wy hw => ?_⟩, ?_⟩
        · (have bw := hw.below; have f0 := HKR2.out _ bw; have f1 := HFC.out _ bw; go_simp; try (first | (with_reducible rfl) | (with_reducible exact ⟨rfl, rfl⟩)))
        try simp only [Act.put]
        refine wpAnyK_ex (i := 4) rfl (by kernel_rfl) (listed' := #[true, true, true, true, true, false, false, false, false, false, false, false, false, false, false, false, false, false, false, false, false]) rfl (fun _ _ _ _ _ h => h) hwx ?_
        apply Exists.intro
        refine ⟨⟨by rfl, fun wy hw => ?_⟩, ?_⟩
        · (have bw := hw.below; have f0 := HKR2.out _ bw; have f1 := HFC.out _ bw; go_simp; try (first | (with_reducible rfl) | (with_reducible exact ⟨rfl, rfl⟩)))
        try simp only [Act.put]
        refine wpAnyK_ex (i := 5) rfl (by kernel_rfl) (listed' := #[true, true, true, true, true, true, false, false, false, false, false, false, false, false, false, false, false, false, false, false, false]) rfl (fun _ _ _ _ _ h => h) hwx ?_
        apply Exists.intro
        refine ⟨⟨by rfl, fun wy hw => ?_⟩, ?_⟩
        · (have bw := hw.below; have f0 := HKR2.out _ bw; have f1 := HFC.out _ bw; go_simp; try (first | (with_reducible rfl) | (with_reducible exact ⟨rfl, rfl⟩)))
        try simp only [Act.put]
        refine wpAnyK_ex (i := 6) rfl (by kernel_rfl) (listed' := #[true, true, true, true, true, true, true, false, false, false, false, false, false, false, false, false, false, false, false, false, false]) rfl (fun _ _ _ _ _ h => h) hwx ?_
        apply Exists.intro
        refine ⟨⟨by rfl, fun wy hw => ?_⟩, ?_⟩
        · (have bw := hw.below; have f0 := HKR2.out _ bw; have f1 := HFC.out _ bw; go_simp; try (first | (with_reducible rfl) | (with_reducible exact ⟨rfl, rfl⟩)))
        try simp only [Act.put]
        refine wpAnyK_ex (i := 7) rfl (by kernel_rfl) (listed' := #[true, true, true, true, true, true, true, true, false, false, false, false, false, false, false, false, false, false, false, false, false]) rfl (fun _ _ _ _ _ h => h) hwx ?_
        apply Exists.intro
        refine ⟨⟨by rfl, fun wy hw => ?_⟩, ?_⟩
        · (have bw := hw.below; have f0 := HKR2.out _ bw; have f1 := HFC.out _ bw; go_simp; try (first | (with_reducible rfl) | (with_reducible exact ⟨rfl, rfl⟩)))
        try simp only [Act.put]
        refine wpAnyK_ex (i := 8) rfl (by kernel_rfl) (listed' := #[true, true, true, true, true, true, true, true, true, false, false, false, false, false, false, false, false, false, false, false, false]) rfl (fun _ _ _ _ _ h => h) hwx ?_
        apply Exists.intro
        refine ⟨⟨by rfl, fun wy hw => ?_⟩, ?_⟩
        · (have bw := hw.below; have f0 := HKR2.out _ bw; have f1 := HFC.out _ bw; go_simp; try (first | (with_reducible rfl) | (with_reducible exact ⟨rfl, rfl⟩)))
        try simp only [Act.put]
        refine wpAnyK_callx (i := 9) rfl (by kernel_rfl) (listed' := #[true, true, true, true, true, true, true, true, true, true, false, false, false, false, false, false, false, false, false, false, false]) rfl (fun _ _ _ _ _ h => h) hwx ?_
        apply Exists.intro
        apply Exists.intro
        apply Exists.intro
        refine ⟨⟨by rfl, fun wy hw => ?_, fun wy hw => ?_⟩, ?_⟩
        · (have bw := hw.below; have f0 := HKR2.out _ bw; have f1 := HFC.out _ bw; go_simp; try (first | (with_reducible rfl) | (with_reducible exact ⟨rfl, rfl⟩)))
        · (exact P1.out _)
        try simp only [Act.put]
        refine wpAnyK_ex (i := 10) rfl (by kernel_rfl) (listed' := #[true, true, true, true, true, true, true, true, true, true, true, false, false, false, false, false, false, false, false, false, false]) rfl (fun _ _ _ _ _ h => h) hwx ?_
        apply Exists.intro
        refine ⟨⟨by rfl, fun wy hw => ?_⟩, ?_⟩
        · (have bw := hw.below; have f0 := HKR2.out _ bw; have f1 := HFC.out _ bw; go_simp; try (first | (with_reducible rfl) | (with_reducible exact ⟨rfl, rfl⟩)))
        try simp only [Act.put]
        refine wpAnyK_ex (i := 11) rfl (by kernel_rfl) (listed' := #[true, true, true, true, true, true, true, true, true, true, true, true, false, false, false, false, false, false, false, false, false]) rfl (fun _ _ _ _ _ h => h) hwx ?_
        apply Exists.intro
        refine ⟨⟨by rfl, fun wy hw => ?_⟩, ?_⟩
        · (have bw := hw.below; have f0 := HKR2.out _ bw; have f1 := HFC.out _ bw; go_simp; try (first | (with_reducible rfl) | (with_reducible exact ⟨rfl, rfl⟩)))
        try simp only [Act.put]
        refine wpAnyK_ex (i := 12) rfl (by kernel_rfl) (listed' := #[true, true, true, true, true, true, true, true, true, true, true, true, true, false, false, false, false, false, false, false, false]) rfl (fun _ _ _ _ _ h => h) hwx ?_
        apply Exists.intro
        refine ⟨⟨by rfl, fun wy hw => ?_⟩, ?_⟩
        · (have bw := hw.below; have f0 := HKR2.out _ bw; have f1 := HFC.out _ bw; go_simp; try (first | (with_reducible rfl) | (with_reducible exact ⟨rfl, rfl⟩)))
        try simp only [Act.put]
        refine wpAnyK_ex (i := 13) rfl (by kernel_rfl) (listed' := #[true, true, true, true, true, true, true, true, true, true, true, true, true, true, false, false, false, false, false, false, false]) rfl (fun _ _ _ _ _ h => h) hwx ?_
        apply Exists.intro
        refine ⟨⟨by rfl, fun wy hw => ?_⟩, ?_⟩
        · (have bw := hw.below; have f0 := HKR2.out _ bw; have f1 := HFC.out _ bw; go_simp; try (first | (with_reducible rfl) | (with_reducible exact ⟨rfl, rfl⟩)))
        try simp only [Act.put]
        refine wpAnyK_ex (i := 14) rfl (by kernel_rfl) (listed' := #[true, true, true, true, true, true, true, true, true, true, true, true, true, true, true, false, false, false, false, false, false]) rfl (fun _ _ _ _ _ h => h) hwx ?_
        apply Exists.intro
        refine ⟨⟨by rfl, fun wy hw => ?_⟩, ?_⟩
        · (have bw := hw.below; have f0 := HKR2.out _ bw; have f1 := HFC.out _ bw; go_simp; try (first | (with_reducible rfl) | (with_reducible exact ⟨rfl, rfl⟩)))
        try simp only [Act.put]
        refine wpAnyK_callx (i := 15) rfl (by kernel_rfl) (listed' := #[true, true, true, true, true, true, true, true, true, true, true, true, true, true, true, true, false, false, false, false, false]) rfl (fun _ _ _ _ _ h => h) hwx ?_
        apply Exists.intro
        apply Exists.intro
        apply Exists.intro
        refine ⟨⟨by rfl, fun wy hw => ?_, fun wy hw => ?_⟩, ?_⟩
        · (have bw := hw.below; have f0 := HKR2.out _ bw; have f1 := HFC.out _ bw; go_simp; try (first | (with_reducible rfl) | (with_reducible exact ⟨rfl, rfl⟩)))
        · (exact P3.out _)
        try simp only [Act.put]
        refine wpAnyK_ex (i := 16) rfl (by kernel_rfl) (listed' := #[true, true, true, true, true, true, true, true, true, true, true, true, true, true, true, true, true, false, false, false, false]) rfl (fun _ _ _ _ _ h => h) hwx ?_
        apply Exists.intro
        refine ⟨⟨by rfl, fun wy hw => ?_⟩, ?_⟩
        · (have bw := hw.below; have f0 := HKR2.out _ bw; have f1 := HFC.out _ bw; go_simp; try (first | (with_reducible rfl) | (with_reducible exact ⟨rfl, rfl⟩)))
        try simp only [Act.put]
        refine wpAnyK_fork2 17 19 (by kernel_rfl) ?_ ?_
        · skip
          refine wpOpK_step rfl (by kernel_rfl) (listed' := #[true, true, true, true, true, true, true, true, true, true, true, true, true, true, true, true, true, true, false, false, false]) rfl (by rfl) (fun K hK => ?_)
          go_simp
          refine hK _ _ (g6) ?_
          clear hK K
          try simp only [Act.put]
          refine wpAnyK_ex (i := 18) rfl (by kernel_rfl) (listed' := #[true, true, true, true, true, true, true, true, true, true, true, true, true, true, true, true, true, true, true, false, false]) rfl (fun _ _ _ _ _ h => h) (g6) ?_
          apply Exists.intro
          refine ⟨⟨by rfl, fun wy hw => ?_⟩, ?_⟩
          · (have bw := hw.below; have f0 := HKR2.out _ bw; have f1 := HFC.out _ bw; go_simp; try (first | (with_reducible rfl) | (with_reducible exact ⟨rfl, rfl⟩)))
          try simp only [Act.put]
          refine wpAnyK_fork1 19 (by kernel_rfl) ?_
          refine wpOpK_step rfl (by kernel_rfl) (listed' := #[true, true, true, true, true, true, true, true, true, true, true, true, true, true, true, true, true, true, true, true, false]) rfl (by rfl) (fun K hK => ?_)
          go_simp
          refine hK _ _ (g7) ?_
          clear hK K
          try simp only [Act.put]
          refine wpAnyK_end (by kernel_rfl) ?_
          try simp only [pickOps, List.filterMap_cons, List.filterMap_nil, List.getElem?_toArray, List.getElem?_cons_succ, List.getElem?_cons_zero]
          clear V6 V7 V8 V9
          go_wp2_with fail
          refine NoPanic.normal ?_
          go_wp2_with fail
          go_meet
          exact ⟨_, _, rfl, Lib.hid ⟨(K7.out.put 0 _).put 1 _, (O7.out.far (by intro e; injection e with e; have e : wx.heap.size = wx.heap.size + 1 := e; omega)).far (by intro e; injection e with e; have e : wx.heap.size = wx.heap.size + 1 := e; omega), by omega, by simp; omega, by omega⟩, Lib.hid ((H7.out.setCell (by show _ ≤ wx.heap.size + 1; omega) _).setCell (by show _ ≤ wx.heap.size + 1; omega) _)⟩
        · skip
          refine wpOpK_step rfl (by kernel_rfl) (listed' := #[true, true, true, true, true, true, true, true, true, true, true, true, true, true, true, true, true, false, false, true, false]) rfl (by rfl) (fun K hK => ?_)
          go_simp
          refine hK _ _ (g8) ?_
          clear hK K
          try simp only [Act.put]
          refine wpAnyK_fork1 17 (by kernel_rfl) ?_
          refine wpOpK_step rfl (by kernel_rfl) (listed' := #[true, true, true, true, true, true, true, true, true, true, true, true, true, true, true, true, true, true, false, true, false]) rfl (by rfl) (fun K hK => ?_)
          go_simp
          refine hK _ _ (g9) ?_
          clear hK K
          try simp only [Act.put]
          refine wpAnyK_ex (i := 18) rfl (by kernel_rfl) (listed' := #[true, true, true, true, true, true, true, true, true, true, true, true, true, true, true, true, true, true, true, true, false]) rfl (fun _ _ _ _ _ h => h) (g9) ?_
          apply Exists.intro
          refine ⟨⟨by rfl, fun wy hw => ?_⟩, ?_⟩
          · (have bw := hw.below; have f0 := HKR2.out _ bw; have f1 := HFC.out _ bw; go_simp; try (first | (with_reducible rfl) | (with_reducible exact ⟨rfl, rfl⟩)))
          try simp only [Act.put]
          refine wpAnyK_end (by kernel_rfl) ?_
          try simp only [pickOps, List.filterMap_cons, List.filterMap_nil, List.getElem?_toArray, List.getElem?_cons_succ, List.getElem?_cons_zero]
          clear V6 V7 V8 V9
          go_wp2_with fail
          refine NoPanic.normal ?_
          go_wp2_with fail
          go_meet
          exact ⟨_, _, rfl, Lib.hid ⟨(K8.out.put 0 _).put 1 _, (O9.out.far (by intro e; injection e with e; have e : wx.heap.size + 1 = wx.heap.size := e; omega)).far (by intro e; injection e with e; have e : wx.heap.size + 1 = wx.heap.size := e; omega), by omega, by simp; omega, by omega⟩, Lib.hid ((H9.out.setCell (by show _ ≤ wx.heap.size; omega) _).setCell (by show _ ≤ wx.heap.size; omega) _)⟩
      case rest =>
        obtain ⟨c0, g, rfl, HS, HB6⟩ := hcut
        generalize wc = w6 at *
        obtain ⟨KC, KO, hc1, hc2, hcg⟩ := HS.out
        have KC := Lib.hid KC; have KO := Lib.hid KO
        clear HS
        have hz6 : wr.heap.size ≤ w6.heap.size := HB6.out.size
        have r6 := (HKR.out.below HB6.out 0 (by simp)).1
        simp only [List.getElem_cons_zero] at r6
        clear wa1 wa3 wb1 wb3 wc1 q1 q3 r0
        go_upto_region 6 with fail
        by_cases h5 : A5 = 1
        · have h51 : (A5 == 1) = true := by rw [h5]; rfl
          have HCL2 := Lib.hid (show clkN f n k = ⟨D, [(⟨500 + A1, A3⟩ : An), (⟨520 + A7, 10000000 + A2⟩ : An)]⟩ by rw [HCL.out, if_pos h5])
          clear h5
          go_upto_region 7 with (go_at_call 38; refine (P5.out _).mono ?_; rintro e z ⟨rfl, rfl⟩)
          go_cut [7] from 40 to 55 (fun s7 wx => s7 = .pointer (some ⟨c0, 0, none⟩) ∧ Hid (∃ g c, CellsAt wx c0 [.int .i64 D, .slice (some ⟨g, 0, none⟩) 2 c] ∧ Own KA wx wr.heap.size (.slice (some ⟨g, 0, none⟩) 2 c) [(⟨500 + A1, A3⟩ : An), (⟨520 + A7, 10000000 + A2⟩ : An)] ∧ c0 ≠ g) ∧ Hid (Below wr.heap.size wr wx))
          case first =>
            have HKC := Lib.hid (fun W (b : Below z.heap.size z W) => show W.cell? ⟨c0, 1, none⟩ = some (.slice (some ⟨g, 0, none⟩) 1 1) from (KC.out.below b 1 (by simp)).1)
            refine wp_region_noPanic ?_
            refine wp_region_Kx (C := Grew z) [14, 15, 16] 14 #[false, false, false, false, false, false, false, false, false, false, false, false, false, false, false, false, false] (by kernel_rfl) (by kernel_rfl) (by kernel_rfl) (grew0 _) ?_
            intro wx hwx
            obtain ⟨w7, V7, Z7, K7, B7⟩ := lay8 wx [.int .i64 (520 + A7), .int .i64 (10000000 + A2)] 60
            have g7 : Grew z w7 := by rw [← V7]; exact hwx.alloc _
            have H7 := Lib.hid g7.below
            have K7 := Lib.hid K7
            have hs := hwx.below.size
            refine wpAnyK_ex (i := 0) rfl (by kernel_rfl) (listed' := #[true, false, false, false, false, false, false, false, false, false, false, false, false, false, false, false, false]) rfl (fun _ _ _ _ _ h => h) hwx ?_
            apply Exists.intro
            refine ⟨⟨by rfl, fun wy hw => ?_⟩, ?_⟩
            · (have bw := hw.below; have f0 := HKC.out _ bw; go_simp; try (first | (with_reducible rfl) | (with_reducible exact ⟨rfl, rfl⟩)))
            try simp only [Act.put]
            refine wpAnyK_ex (i := 1) rfl (by kernel_rfl) (listed' := #[true, true, false, false, false, false, false, false, false, false, false, false, false, false, false, false, false]) rfl (fun _ _ _ _ _ h => h) hwx ?_
            apply Exists.intro
            refine ⟨⟨by rfl, fun wy hw => ?_⟩, ?_⟩
            · (have bw := hw.below; have f0 := HKC.out _ bw; go_simp; try (first | (with_reducible rfl) | (with_reducible exact ⟨rfl, rfl⟩)))
            try simp only [Act.put]
            refine wpAnyK_ex (i := 2) rfl (by kernel_rfl) (listed' := #[true, true, true, false, false, false, false, false, false, false, false, false, false, false, false, false, false]) rfl (fun _ _ _ _ _ h => h) hwx ?_
            apply Exists.intro
            refine ⟨⟨by rfl, fun wy hw => ?_⟩, ?_⟩
            · (have bw := hw.below; have f0 := HKC.out _ bw; go_simp; try (first | (with_reducible rfl) | (with_reducible exact ⟨rfl, rfl⟩)))
            try simp only [Act.put]
            refine wpAnyK_ex (i := 3) rfl (by kernel_rfl) (listed' := #[true, true, true, true, false, false, false, false, false, false, false, false, false, false, false, false, false]) rfl (fun _ _ _ _ _ h => h) hwx ?_
            apply Exists.intro
            refine ⟨⟨by rfl, fun wy hw => ?_⟩, ?_⟩
            · (have bw := hw.below; have f0 := HKC.out _ bw; go_simp; try (first | (with_reducible rfl) | (with_reducible exact ⟨rfl, rfl⟩)))
            try simp only [Act.put]
            refine wpAnyK_callx (i := 4) rfl (by kernel_rfl) (listed' := #[true, true, true, true, true, false, false, false, false, false, false, false, false, false, false, false, false]) rfl (fun _ _ _ _ _ h => h) hwx ?_
            apply Exists.intro
            apply Exists.intro
            apply Exists.intro
            refine ⟨⟨by rfl, fun wy hw => ?_, fun wy hw => ?_⟩, ?_⟩
            · (have bw := hw.below; have f0 := HKC.out _ bw; go_simp; try (first | (with_reducible rfl) | (with_reducible exact ⟨rfl, rfl⟩)))
            · (exact P7.out _)
            try simp only [Act.put]
            refine wpAnyK_ex (i := 5) rfl (by kernel_rfl) (listed' := #[true, true, true, true, true, true, false, false, false, false, false, false, false, false, false, false, false]) rfl (fun _ _ _ _ _ h => h) hwx ?_
            apply Exists.intro
            refine ⟨⟨by rfl, fun wy hw => ?_⟩, ?_⟩
            · (have bw := hw.below; have f0 := HKC.out _ bw; go_simp; try (first | (with_reducible rfl) | (with_reducible exact ⟨rfl, rfl⟩)))
            try simp only [Act.put]
            refine wpAnyK_ex (i := 6) rfl (by kernel_rfl) (listed' := #[true, true, true, true, true, true, true, false, false, false, false, false, false, false, false, false, false]) rfl (fun _ _ _ _ _ h => h) hwx ?_
            apply Exists.intro
            refine ⟨⟨by rfl, fun wy hw => ?_⟩, ?_⟩
            · (have bw := hw.below; have f0 := HKC.out _ bw; go_simp; try (first | (with_reducible rfl) | (with_reducible exact ⟨rfl, rfl⟩)))
            try simp only [Act.put]
            refine wpAnyK_ex (i := 7) rfl (by kernel_rfl) (listed' := #[true, true, true, true, true, true, true, true, false, false, false, false, false, false, false, false, false]) rfl (fun _ _ _ _ _ h => h) hwx ?_
            apply Exists.intro
            refine ⟨⟨by rfl, fun wy hw => ?_⟩, ?_⟩
            · (have bw := hw.below; have f0 := HKC.out _ bw; go_simp; try (first | (with_reducible rfl) | (with_reducible exact ⟨rfl, rfl⟩)))
            try simp only [Act.put]
            refine wpAnyK_ex (i := 8) rfl (by kernel_rfl) (listed' := #[true, true, true, true, true, true, true, true, true, false, false, false, false, false, false, false, false]) rfl (fun _ _ _ _ _ h => h) hwx ?_
            apply Exists.intro
            refine ⟨⟨by rfl, fun wy hw => ?_⟩, ?_⟩
            · (have bw := hw.below; have f0 := HKC.out _ bw; go_simp; try (first | (with_reducible rfl) | (with_reducible exact ⟨rfl, rfl⟩)))
            try simp only [Act.put]
            refine wpAnyK_ex (i := 9) rfl (by kernel_rfl) (listed' := #[true, true, true, true, true, true, true, true, true, true, false, false, false, false, false, false, false]) rfl (fun _ _ _ _ _ h => h) hwx ?_
            apply Exists.intro
            refine ⟨⟨by rfl, fun wy hw => ?_⟩, ?_⟩
            · (have bw := hw.below; have f0 := HKC.out _ bw; go_simp; try (first | (with_reducible rfl) | (with_reducible exact ⟨rfl, rfl⟩)))
            try simp only [Act.put]
            refine wpAnyK_callx (i := 10) rfl (by kernel_rfl) (listed' := #[true, true, true, true, true, true, true, true, true, true, true, false, false, false, false, false, false]) rfl (fun _ _ _ _ _ h => h) hwx ?_
            apply Exists.intro
            apply Exists.intro
            apply Exists.intro
            refine ⟨⟨by rfl, fun wy hw => ?_, fun wy hw => ?_⟩, ?_⟩
            · (have bw := hw.below; have f0 := HKC.out _ bw; go_simp; try (first | (with_reducible rfl) | (with_reducible exact ⟨rfl, rfl⟩)))
            · (exact P2.out _)
            try simp only [Act.put]
            refine wpAnyK_ex (i := 11) rfl (by kernel_rfl) (listed' := #[true, true, true, true, true, true, true, true, true, true, true, true, false, false, false, false, false]) rfl (fun _ _ _ _ _ h => h) hwx ?_
            apply Exists.intro
            refine ⟨⟨by rfl, fun wy hw => ?_⟩, ?_⟩
            · (have bw := hw.below; have f0 := HKC.out _ bw; go_simp; try (first | (with_reducible rfl) | (with_reducible exact ⟨rfl, rfl⟩)))
            try simp only [Act.put]
            refine wpAnyK_ex (i := 12) rfl (by kernel_rfl) (listed' := #[true, true, true, true, true, true, true, true, true, true, true, true, true, false, false, false, false]) rfl (fun _ _ _ _ _ h => h) hwx ?_
            apply Exists.intro
            refine ⟨⟨by rfl, fun wy hw => ?_⟩, ?_⟩
            · (have bw := hw.below; have f0 := HKC.out _ bw; go_simp; try (first | (with_reducible rfl) | (with_reducible exact ⟨rfl, rfl⟩)))
            try simp only [Act.put]
            refine wpAnyK_fork1 13 (by kernel_rfl) ?_
            refine wpOpK_step rfl (by kernel_rfl) (listed' := #[true, true, true, true, true, true, true, true, true, true, true, true, true, true, false, false, false]) rfl (by rfl) (fun K hK => ?_)
            go_simp
            refine hK _ _ (g7) ?_
            clear hK K
            try simp only [Act.put]
            refine wpAnyK_end (by kernel_rfl) ?_
            try simp only [pickOps, List.filterMap_cons, List.filterMap_nil, List.getElem?_toArray, List.getElem?_cons_succ, List.getElem?_cons_zero]
            clear V7
            refine walk_push8 KA (w0 := w7) rfl _ _ rfl wr.heap.size (.slice (some ⟨g, 0, none⟩) 1 1) [(⟨500 + A1, A3⟩ : An)] (⟨520 + A7, 10000000 + A2⟩ : An) rfl (KO.out.below H7.out (Nat.le_refl _)) (Below.refl _ _) (by omega) wx.heap.size 1 rfl K7.out (by simp) ?_
            intro v8 w8 ho8 hb8 hg8 hk8
            obtain ⟨g8, cp8, e8, hob, hgb, hgl⟩ := ho8.block (by simp)
            subst e8
            have HO8 := Lib.hid ho8
            have HC8 := Lib.hid ((KC.out.below H7.out).grown hg8 (by intro e; injection e with e; exact hcg e))
            have hk8 : (some g8 : Option Nat) = some g ∨ (some g8 : Option Nat) = some w7.heap.size := hk8
            have hne : c0 ≠ g8 := by
              rcases hk8 with h | h
              · injection h with h; omega
              · injection h with h; have := H7.out.size; omega
            have HB8 := Lib.hid (show Below wr.heap.size wr w8 from HB6.out.trans ((H7.out.mono (by omega)).trans hb8))
            obtain ⟨c80, c81⟩ := HC8.out 1 (by simp)
            clear ho8 hb8 hg8 hk8 hob
            go_wp2_with fail
            refine NoPanic.normal ?_
            go_wp2_with fail
            go_meet
            exact ⟨rfl, Lib.hid ⟨g8, cp8, HC8.out.put 1 _, HO8.out.far (by intro e; injection e with e; exact hne e.symm), hne⟩, Lib.hid (HB8.out.setCell (by omega) _)⟩
          case rest =>
            obtain ⟨rfl, HX7, HB7⟩ := hcut
            generalize wc = w7 at *
            clear r6
            obtain ⟨g7, cp7, kc7, ko7, _⟩ := HX7.out
            have KC7 := Lib.hid kc7; have KO7 := Lib.hid ko7
            clear kc7 ko7 HX7
            obtain ⟨l, ho, hlen, hck⟩ := HX.out
            obtain ⟨cc0, _⟩ := KC7.out 0 (by simp); obtain ⟨cc1, _⟩ := KC7.out 1 (by simp)
            simp only [List.getElem_cons_zero, List.getElem_cons_succ] at cc0 cc1
            have HO7 := Lib.hid (ho.below HB7.out (Nat.le_refl _))
            have HCK := Lib.hid hck
            have HGE := Lib.hid (fun j e => (ho.ge j e).2)
            have HLEN := Lib.hid hlen
            have HLE := Lib.hid (show l.length + 1 ≤ 100000000 by omega)
            have HZ7 := Lib.hid (show w.heap.size + 1 ≤ w7.heap.size by have := HB7.out.size; omega)
            clear ho hck hlen
            go_wp2_with (first | (at_builtin; refine walk_push8 KK (w0 := w7) rfl _ _ rfl (w.heap.size + 1) _ l (⟨D, some ⟨g7, 0, none⟩, 2, cp7⟩ : Cv) rfl (HO7.out.alloc _) ((Below.refl _ _).alloc HZ7.out _) (by have := HZ7.out; simp; omega) w7.heap.size 1 rfl (cellsAt_new rfl) HLE.out ?_; intro v8 w8 ho8 hb8 hg8 hk8))
            have HO8 := Lib.hid ho8; have HG8 := Lib.hid hg8; have HK8 := Lib.hid hk8; have HB8 := Lib.hid hb8
            clear ho8 hb8 hg8 hk8 cc0 cc1
            go_roundw
            case rel => exact ⟨k + 1, HLT.out, by go_num, Lib.hid ⟨_, HO8.out, by rw [List.length_append, HLEN.out]; rfl, cks_step HCK.out HGE.out HB7.out KO7.out rfl (by simp) hz (by rw [HLEN.out]; exact HCL2.out) HG8.out HK8.out⟩, Lib.hid (HB.out.trans ((HB7.out.mono (by omega)).trans HB8.out))⟩
            case measure => have h9 := HLT.out; simp [RowKit.intOf]; omega
        · have h51 : (A5 == 1) = false := by rw [beq_eq_false_iff_ne]; exact h5
          have HCL2 := Lib.hid (show clkN f n k = ⟨D, [(⟨500 + A1, A3⟩ : An)]⟩ by rw [HCL.out, if_neg h5])
          clear h5
          go_upto_region 8 with (go_at_call 38; refine (P5.out _).mono ?_; rintro e z ⟨rfl, rfl⟩)
          obtain ⟨l, ho, hlen, hck⟩ := HX.out
          obtain ⟨cc0, _⟩ := KC.out 0 (by simp); obtain ⟨cc1, _⟩ := KC.out 1 (by simp)
          simp only [List.getElem_cons_zero, List.getElem_cons_succ] at cc0 cc1
          have HO7 := Lib.hid (ho.below HB6.out (Nat.le_refl _))
          have HCK := Lib.hid hck
          have HGE := Lib.hid (fun j e => (ho.ge j e).2)
          have HLEN := Lib.hid hlen
          have HLE := Lib.hid (show l.length + 1 ≤ 100000000 by omega)
          have HZ7 := Lib.hid (show w.heap.size + 1 ≤ z.heap.size by have := HB6.out.size; omega)
          clear ho hck hlen
          go_wp2_with (first | (at_builtin; refine walk_push8 KK (w0 := z) rfl _ _ rfl (w.heap.size + 1) _ l (⟨D, some ⟨g, 0, none⟩, 1, 1⟩ : Cv) rfl (HO7.out.alloc _) ((Below.refl _ _).alloc HZ7.out _) (by have := HZ7.out; simp; omega) z.heap.size 1 rfl (cellsAt_new rfl) HLE.out ?_; intro v8 w8 ho8 hb8 hg8 hk8))
          have HO8 := Lib.hid ho8; have HG8 := Lib.hid hg8; have HK8 := Lib.hid hk8; have HB8 := Lib.hid hb8
          clear ho8 hb8 hg8 hk8 cc0 cc1
          go_roundw
          case rel => exact ⟨k + 1, HLT.out, by go_num, Lib.hid ⟨_, HO8.out, by rw [List.length_append, HLEN.out]; rfl, cks_step HCK.out HGE.out HB6.out KO.out rfl (by simp) hz (by rw [HLEN.out]; exact HCL2.out) HG8.out HK8.out⟩, Lib.hid (HB.out.trans ((HB6.out.mono (by omega)).trans HB8.out))⟩
          case measure => have h9 := HLT.out; simp [RowKit.intOf]; omega
    · have hkk : k = f.dr.length := by omega
      have HKK := Lib.hid hkk
      have hki : ¬ (k : Int) < (f.dr.length : Int) := by omega
      obtain ⟨l, ho, hlen, hck⟩ := HX.out
      obtain ⟨ad5, c5, e5, hc5, hn5⟩ := ho.rn
      subst e5
      have HR := Lib.hid (show CksPost w f n (.returned (.slice ad5 l.length c5)) wr from ⟨ad5, c5, _, l, rfl, hc5, hn5.base (by omega), by omega, fun i hi => by
        obtain ⟨a1, a2, b, a3, a4, a5, a6⟩ := hck i hi
        exact ⟨a1, a2, b, a3, a4, by omega, a6⟩, HB1.out.trans (HB.out.mono (by omega))⟩)
      clear ho hlen hck hc5 hn5 hkk hlt
      go_wp2_with fail
      go_ret
      exact HR.out
end Go.Proofs.YtifdcfjllonmgaaDoor
