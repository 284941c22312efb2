/-
  The contracts of package integer's naturals: trimmed, followed.   The contract of package integer's natural.followed. The contracts of package integer's natural.plus and natural.multiple.
-/
import Derived.Test.YtcglcgphgahnpaaGreatDoorJ07
import Derived.Laws.CopyOwn
set_option maxRecDepth 100000
set_option maxHeartbeats 16000000
namespace Go.Proofs.YtcglcgphgahnpaaGreatDoor
open Go Go.Proofs Go.RowKit Go.Lib
/-! ### The type natural -/
theorem nat_elem : Tryz.prog.underlying 119 = some (.slice (Tryz.prog.elem 119)) := by kernel_rfl
theorem nat_size (w : World) : (Go.sizeOf (Tryz.prog.elem 119)).run Tryz.prog w = .ok 1 w := by kernel_rfl
theorem atN (g o n c i : Nat) (z : Int) (hz : z = (i : Nat)) (hi : i < n) (w : World) :
 (Instr.indexAt 119 (.slice (some ⟨g, o, none⟩) n c) (.int .i64 z)).run Tryz.prog w = .ok (.pointer (some ⟨g, o + i, none⟩)) w := by
 subst hz
 rw [run_indexAt_slice w 119 _ _ _ _ _ Tryz.underlying119, if_pos (by omega)]
 simp [nat_size, add_at, Result.andThen]
theorem add0 (p : Addr) : p.add 0 = p := by
 obtain ⟨b, o, q⟩ := p
 unfold Addr.add
 split <;> simp_all
theorem sliceN_to (ad : Option Addr) (n c k : Nat) (z : Int) (hz : z = (k : Nat)) (hk : k ≤ c) (w : World) :
 (Instr.slice 119 (.slice ad n c) none (some (.int .i64 z)) none).run Tryz.prog w = .ok (.slice ad k c) w := by
 subst hz
 rw [run_slice_h w _ _ _ _ nat_elem .i64 _ (by omega) (by omega), nat_size]
 simp only [Result.andThen, sliced]
 have e : (ad.map fun x => x.add (0 * 1)) = ad := by cases ad <;> simp [add0]
 rw [e]
 simp
theorem sliceN_from (ad : Option Addr) (n c k : Nat) (z : Int) (hz : z = (k : Nat)) (hk : k ≤ n) (hc : n ≤ c) :
 ∃ ad', (∀ w, (Instr.slice 119 (.slice ad n c) (some (.int .i64 z)) none none).run Tryz.prog w = .ok (.slice ad' (n - k) (c - k)) w) ∧
  (∀ W l, l.length = n → HoldI W ad c l → HoldI W ad' (c - k) (l.drop k)) ∧ (k < c → ∀ g o, ad = some ⟨g, o, none⟩ → ad' = some ⟨g, o + k, none⟩) := by
 subst hz
 refine ⟨if c = k then ad else ad.map (·.add k), ?_, ?_, ?_⟩
 · intro w
   rw [run_slice_l w _ _ _ _ nat_elem .i64 _ (by omega) (by omega), nat_size]
   simp [Result.andThen, sliced]
 · rintro W l hl ⟨h1, h2, h3⟩
   refine ⟨by rw [List.length_drop]; omega, by rw [List.length_drop]; omega, ?_⟩
   by_cases hkn : k = n
   · left; rw [List.drop_of_length_le (by omega)]
   rw [if_neg (by omega)]
   rcases h3 with rfl | ⟨g, o, rfl, hg, hs⟩
   · left; simp
   right
   refine ⟨g, o + k, by simp [add_at], hg, ?_⟩
   intro j hj
   rw [List.length_drop] at hj
   have := hs (k + j) (by omega)
   rw [← Nat.add_assoc] at this
   rw [this]
   congr 3
   simp [List.getD_eq_getElem?_getD]
 rintro hkc g o rfl
 rw [if_neg (by omega)]
 simp [add_at]
theorem make_nat (n : Nat) (hn : n ≤ 1000000) (W : World) (z : Int) (hz : z = (n : Nat)) :
 (Instr.makeSlice 119 (.int .i64 z) (.int .i64 z)).run Tryz.prog W = .ok (.slice (some ⟨W.heap.size, 0, none⟩) n n) (W.alloc (.cells (numVals .i64 (List.replicate n 0)).toArray 3)) := by
 subst hz
 obtain ⟨i0, hi, hz0, hz1, hz2⟩ := info_parts info_i64
 have h := run_make (P := Tryz.prog) W 119 3 i0 (.int .i64 0) Tryz.underlying119 hi hz0 .i64 .i64 (n : Int) (n : Int) (by omega) (by omega) (by rw [hz2]; omega) (by omega)
 rw [hz1, Int.toNat_natCast, made_zeros] at h
 exact h
def NatPost (w : World) (n : Nat) (e : Ending) (w' : World) : Prop := ∃ ad cap m, e = .returned (.slice ad m cap) ∧ (grps n).length = m ∧ HoldI w' ad cap (grps n) ∧ Below w.heap.size w w'
theorem NatPost.on {w w1 w' : World} {n : Nat} {e : Ending} (h : NatPost w1 n e w') (hb : Below w.heap.size w w1) : NatPost w n e w' := by
 obtain ⟨ad, cap, m, h1, h2, h3, h4⟩ := h
 exact ⟨ad, cap, m, h1, h2, h3, hb.trans (h4.mono hb.size)⟩
def NatNew (w : World) (n : Nat) (e : Ending) (w' : World) : Prop := ∃ g o cap m, e = .returned (.slice (some ⟨g, o, none⟩) m cap) ∧ (grps n).length = m ∧ HoldI w' (some ⟨g, o, none⟩) cap (grps n) ∧ Below w.heap.size w w' ∧ w.heap.size ≤ g
theorem NatNew.post {w : World} {n : Nat} (e : Ending) (w' : World) (h : NatNew w n e w') : NatPost w n e w' := by
 obtain ⟨g, o, cap, m, h1, h2, h3, h4, _⟩ := h
 exact ⟨_, cap, m, h1, h2, h3, h4⟩
def NatAt (W : World) (ad : Option Addr) (m cap n : Nat) : Prop := (grps n).length = m ∧ HoldI W ad cap (grps n)
theorem NatAt.below {W W' : World} {ad : Option Addr} {m cap n : Nat} (h : NatAt W ad m cap n) {k : Nat} (hb : Below k W W') (hk : W.heap.size ≤ k) : NatAt W' ad m cap n := ⟨h.1, h.2.below hb hk⟩
theorem trimmed_any3 (l : List Nat) (hd : IsGrp l) (ad : Option Addr) (cap : Nat) (w : World) (hH : HoldI w ad cap l) (n : Nat) (hn : l.length = n) :
 Calls Tryz.prog 155 #[.slice ad n cap] w fun e w' => e = .returned (.slice ad (trimG l).length cap) ∧ w = w' := by
 have h40 : n ≤ 1099511627776 := by have := hH.2.1; omega
 have hcn : n ≤ cap := by have := hH.1; omega
 obtain ⟨T, hT⟩ : ∃ T, trimG l = T := ⟨_, rfl⟩
 rw [hT]
 have HT := hid hT; have HH := hid hH; have HN := hid hn
 clear hT hH hn
 go_enter Tryz.func155, Tryz.ntmps155
 go_wp2_with fail
 go_loop [3] (fun v => ∃ k : Nat, k ≤ n ∧ v = .int .i64 k ∧ Hid (trimG (l.take k) = T)) (fun v => (RowKit.intOf v).toNat)
 case atStart => exact ⟨n, Nat.le_refl _, rfl, (by rw [List.take_of_length_le (by rw [HN.out]; omega)]; exact HT.out : trimG (l.take n) = T)⟩
 obtain ⟨k, hk, rfl, ht⟩ := hrel
 have hsl := fun w => sliceN_to ad n cap k (k : Int) rfl (by omega) w
 by_cases h0 : k = 0
 · subst h0
   have hTn : 0 = T.length := by rw [← ht.out]; rfl
   have HTN := hid hTn
   have hz : ¬ (0 : Int) < ((0 : Nat) : Int) := by omega
   clear hTn
   go_wp2_with fail
   go_ret
   exact ⟨ret_slice HTN.out, rfl⟩
 obtain ⟨j, rfl⟩ : ∃ j, k = j + 1 := ⟨k - 1, by omega⟩
 have hjl : j < l.length := by rw [HN.out]; omega
 obtain ⟨g, o, rfl, hg, hs⟩ := HH.out.at (by omega)
 have hcell := hs j hjl
 have hz := trimG_step_zero l j hjl
 have hst := trimG_step_stop hd j hjl
 have hlen : (l.take (j + 1)).length = j + 1 := by rw [List.length_take]; omega
 obtain ⟨x, hx⟩ : ∃ x, l.getD j 0 = x := ⟨_, rfl⟩
 rw [hx] at hcell hz hst
 have hpos : (0 : Int) < ((j + 1 : Nat) : Int) := by omega
 have hix := fun w => atN g o n cap j (((j + 1 : Nat) : Int) - 1) (by omega) (by omega) w
 have HZ := hid hz; have HST := hid hst; have HLN := hid hlen
 clear hz hst hlen hx hs hjl h0
 by_cases hx0 : x = 0
 · have e1 : ((x : Int) == 0) = true := by rw [beq_iff_eq]; omega
   have HX := hid hx0
   clear hx0
   go_wp2_with fail
   go_round
   case rel => exact ⟨j, by omega, by go_num, (by rw [← HZ.out HX.out]; exact ht.out : trimG (l.take j) = T)⟩
   case measure => simp [RowKit.intOf]
 have e1 : ((x : Int) == 0) = false := by rw [beq_eq_false_iff_ne]; omega
 have hTn : j + 1 = T.length := by rw [← ht.out, HST.out hx0]; exact HLN.out.symm
 have HTN := hid hTn
 have e2 : 0 < x := by omega
 clear hx0 hTn
 go_wp2_with fail
 go_ret
 exact ⟨ret_slice HTN.out, rfl⟩
end Go.Proofs.YtcglcgphgahnpaaGreatDoor
namespace Go.Proofs.YtcglcgphgahnpaaGreatDoor
open Go Go.Proofs Go.RowKit Go.Lib
theorem isI_new (W : World) (l : List Nat) : IsI (W.alloc (.cells (numVals .i64 l).toArray 3)) W.heap.size l := heap_alloc_new W _
theorem IsI.alloc {W : World} {g : Nat} {l : List Nat} (h : IsI W g l) (o : Obj) : IsI (W.alloc o) g l :=
 (Below.heap_alloc W o g (Array.getElem?_eq_some_iff.1 h).1).trans h
theorem IsI.held {W : World} {g : Nat} {l : List Nat} (h : IsI W g l) (n : Nat) (hn : l.length = n) (hl : n ≤ 1099511627776) : HoldI W (some ⟨g, 0, none⟩) n l := by
 subst hn; exact h.holds hl
theorem nat_trim {w W : World} {g n m : Nat} {l : List Nat} (hg : IsGrp l) (h : IsI W g l) (hn : l.length = n) (hl : n ≤ 1099511627776) (ht : trimG l = grps m) (hb : Below w.heap.size w W) (hge : w.heap.size ≤ g) : NatNew w m (.returned (.slice (some ⟨g, 0, none⟩) (trimG l).length n)) W := by
 have h1 := (h.held n hn hl).take (trimG l).length
 rw [← trimG_take n hn hg] at h1
 rw [ht] at h1 ⊢
 exact ⟨_, _, _, _, rfl, rfl, h1, hb, hge⟩
theorem copy_info : (Tryz.prog.info? 3).map (·.size) = some 1 := by
 have h := info_i64
 cases hq : Tryz.prog.info? 3 with
 | none => rw [hq] at h; cases h
 | some i => rw [hq] at h; simp at h ⊢; exact h.2.1
theorem walk_copyN {w w0 : World} {ops : Array Oper} {rest : List Oper} {o : Oper} {a : Act} {Q : Exit → Act → World → Prop} (hgd : o.guard = none) (d s : Operand)
 (ho : o.op = .call { callee := .builtin .copy, args := #[d, s], argTypes := #[119, 119] })
 (g off k c n cap : Nat) (dp sp : Option Addr) (out l : List Nat) (hd : a.eval d = .slice dp k c) (hs : a.eval s = .slice sp n cap) (hI : IsI w g out) (hH : HoldI w sp cap l) (hn : l.length = n)
 (hk : n ≤ k) (hdp : 0 < n → dp = some ⟨g, off, none⟩) (hfit : off + n ≤ out.length) (hb : Below w0.heap.size w0 w) (hB : w0.heap.size ≤ g)
 (h : ∀ w', IsI w' g (out.take off ++ (l ++ out.drop (off + n))) → Below w0.heap.size w0 w' → wpList Tryz.prog ops Q rest (a.put o.dst (goInt n)) w') : wpList Tryz.prog ops Q (o :: rest) a w := by
 have hlen : (numVals .i64 l).length = n := by simp [numVals, hn]
 refine wpList_copy_splice hgd d s 119 119 ho 3 Tryz.underlying119 copy_info dp sp k c n cap hd hs g off (numVals .i64 out) 3 hI (numVals .i64 l)
  (by rw [hlen]; exact (Nat.min_eq_left hk).symm) ?_ (by rw [hlen]; simpa [numVals] using hfit) numVals_one w0.heap.size w0 hb hB ?_
 · rw [hlen]
   intro h0
   refine ⟨hdp h0, ?_⟩
   obtain ⟨g1, o1, rfl, _, hs1⟩ := hH.at (by omega)
   refine ⟨_, rfl, ?_⟩
   intro j v hj
   obtain ⟨h1, rfl⟩ := numVals_get hj
   rw [add_at]
   exact hs1 j h1
 intro w' hw' hb'
 rw [hlen]
 refine h w' ?_ hb'
 have e := hw'.out
 unfold IsI
 rw [e]
 congr 3
 unfold splice
 rw [hlen]
 simp [numVals, List.map_take, List.map_drop]
theorem followed_new (n d : Nat) (hd : d < 10000) (ad : Option Addr) (cap m : Nat) (w : World) (h : NatAt w ad m cap n) (hm : m ≤ 1000) :
 Calls Tryz.prog 157 #[.slice ad m cap, .int .i64 (d : Nat)] w (NatNew w (d + 10000 * n)) := by
 obtain ⟨hm1, hH⟩ := h
 have hg := grps_lt n
 have hv := valG_grps n
 obtain ⟨l, hl⟩ : ∃ l, grps n = l := ⟨_, rfl⟩
 rw [hl] at hm1 hH hg hv
 have hmk := fun W => make_nat (m + 1) (by omega) W ((m : Int) + 1) (by omega)
 have hix := fun g w => atN g 0 (m + 1) (m + 1) 0 0 rfl (by omega) w
 obtain ⟨ad', hsl, _, hpos⟩ := sliceN_from (some ⟨w.heap.size, 0, none⟩) (m + 1) (m + 1) 1 1 rfl (by omega) (Nat.le_refl _)
 rw [show m + 1 - 1 = m by omega] at hsl
 have hp := fun (h0 : 0 < m) => hpos (by omega) w.heap.size 0 rfl
 rw [Nat.zero_add] at hp
 obtain ⟨O, hO⟩ : ∃ O, List.replicate (m + 1) 0 = O := ⟨_, rfl⟩
 have hOl : O.length = m + 1 := by rw [← hO]; simp
 have hOs : O.set 0 d = d :: List.replicate m 0 := by rw [← hO]; simp [List.replicate_succ]
 have hnew := isI_new w O
 rw [hO] at hmk
 have c0 := hnew.cell 0 (by omega)
 have f0 := hnew.frozen 0
 have hVs : (numVals .i64 O).set 0 (.int .i64 (d : Int)) = numVals .i64 (O.set 0 d) := by simp [numVals, List.map_set]
 have hst := isI_new w (O.set 0 d)
 rw [← hVs] at hst
 have hBn : Below w.heap.size w (w.alloc (.cells ((numVals .i64 O).set 0 (.int .i64 (d : Int))).toArray 3)) := (Below.refl _ w).alloc (Nat.le_refl _) _
 have hH2 := hH.below hBn (Nat.le_refl _)
 have hfin : trimG (d :: l) = grps (d + 10000 * n) := by rw [followed_trim, hv]
 have hgd : IsGrp (d :: l) := fun x hx => (List.mem_cons.1 hx).elim (fun e => by omega) (hg x)
 have HST := hid hst; have HBN := hid hBn; have HH2 := hid hH2; have HF := hid hfin; have HGD := hid hgd; have HP := hid hp; have HOL := hid hOl; have HOS := hid hOs; have HM1 := hid hm1
 obtain ⟨x0, hx0⟩ : ∃ x, O.getD 0 0 = x := ⟨_, rfl⟩
 rw [hx0] at c0
 clear hVs hst hBn hH2 hfin hgd hp hpos hH hg hv hl hO hOl hOs hnew hm1 hx0
 go_enter Tryz.func157, Tryz.ntmps157
 go_wp2_with (first | (refine walk_copyN (o := ⟨some 16, _, _, _, _, _⟩) (w0 := w) rfl (.tmp 14) (.tmp 15) rfl w.heap.size 1 m m m cap ad' ad (O.set 0 d) l rfl rfl HST.out HH2.out HM1.out (Nat.le_refl _) HP.out (by rw [List.length_set, HOL.out]; omega) HBN.out (Nat.le_refl _) ?_; intro w2 hI2 hb2))
 have hL : (O.set 0 d).take 1 ++ (l ++ (O.set 0 d).drop (1 + m)) = d :: l := by
  rw [HOS.out]
  rw [List.drop_of_length_le (by simp; omega)]
  simp
 rw [hL] at hI2
 have hlen : (d :: l).length = m + 1 := by rw [List.length_cons, HM1.out]
 refine (trimmed_any3 (d :: l) HGD.out (some ⟨w.heap.size, 0, none⟩) (m + 1) _ (hI2.held (m + 1) hlen (by omega)) (m + 1) hlen).mono ?_
 rintro e w3 ⟨rfl, rfl⟩
 have hpost := nat_trim (w := w) HGD.out hI2 hlen (by omega) HF.out hb2 (Nat.le_refl _)
 obtain ⟨q, hq⟩ : ∃ q, (trimG (d :: l)).length = q := ⟨_, rfl⟩
 rw [hq] at hpost ⊢
 have HPOST := hid hpost
 clear hpost hq hI2 hb2
 go_wp2
 go_ret
 exact HPOST.out
theorem followed_any (n d : Nat) (hd : d < 10000) (ad : Option Addr) (cap m : Nat) (w : World) (h : NatAt w ad m cap n) (hm : m ≤ 1000) :
 Calls Tryz.prog 157 #[.slice ad m cap, .int .i64 (d : Nat)] w (NatPost w (d + 10000 * n)) := (followed_new n d hd ad cap m w h hm).mono NatNew.post
end Go.Proofs.YtcglcgphgahnpaaGreatDoor
namespace Go.Proofs.YtcglcgphgahnpaaGreatDoor
open Go Go.Proofs Go.RowKit Go.Lib
theorem tmod_pos {t : Int} (h : 0 ≤ t) : Int.tmod t 10000 = t % 10000 ∧ Int.tdiv t 10000 = t / 10000 := ⟨Int.tmod_eq_emod_of_nonneg h, Int.tdiv_eq_ediv_of_nonneg h⟩
theorem tmod_neg {t : Int} (h : t < 0) : Int.tmod t 10000 = -((-t) % 10000) ∧ Int.tdiv t 10000 = -((-t) / 10000) := by
 have e1 := Int.tmod_eq_emod_of_nonneg (a := -t) (b := 10000) (by omega)
 have e2 := Int.tdiv_eq_ediv_of_nonneg (a := -t) (b := 10000) (by omega)
 rw [Int.neg_tmod] at e1
 rw [Int.neg_tdiv] at e2
 exact ⟨by omega, by omega⟩
theorem floor_cases (t : Int) (hb : -100000000 ≤ t ∧ t ≤ 100000000) : ∃ (d : Nat) (c' r s : Int), (d : Int) = t % 10000 ∧ c' = t / 10000 ∧ Int.tmod t 10000 = r ∧ Int.tdiv t 10000 = s ∧ (0 ≤ t → t % 10000 = r ∧ t / 10000 = s) ∧ -10000 < r ∧ r < 10000 ∧ -10000 ≤ s ∧ s ≤ 10000 ∧
 ((0 ≤ r ∧ r = (d : Int) ∧ s = c') ∨ (r < 0 ∧ r + 10000 = (d : Int) ∧ s - 1 = c')) := by
 refine ⟨(t % 10000).toNat, t / 10000, _, _, by omega, rfl, rfl, rfl, ?_⟩
 by_cases h : t < 0
 · obtain ⟨e1, e2⟩ := tmod_neg h
   rw [e1, e2]
   refine ⟨by omega, by omega, by omega, by omega, by omega, ?_⟩
   by_cases h0 : (-t) % 10000 = 0
   · left; omega
   right; omega
 obtain ⟨e1, e2⟩ := tmod_pos (show 0 ≤ t by omega)
 rw [e1, e2]
 refine ⟨by omega, by omega, by omega, by omega, by omega, ?_⟩
 left; omega
theorem IsI.store2 {W : World} {g : Nat} {l : List Nat} (h : IsI W g l) (i v : Nat) (x y : Int) (hx : x = (v : Nat)) : IsI ((W.setCell ⟨g, i, none⟩ (.int .i64 y)).setCell ⟨g, i, none⟩ (.int .i64 x)) g (l.set i v) := by
 subst hx
 have h1 : (W.setCell ⟨g, i, none⟩ (.int .i64 y)).heap[g]? = some (.cells ((numVals .i64 l).toArray.setIfInBounds i (.int .i64 y)) 3 (0, 0)) := heap_setCell_same W g i _ 3 _ h
 unfold IsI
 have e : (numVals .i64 (l.set i v)).toArray = ((numVals .i64 l).toArray.setIfInBounds i (.int .i64 y)).setIfInBounds i (.int .i64 ((v : Nat) : Int)) := by simp [numVals, List.map_set]
 rw [e]
 exact heap_setCell_same _ g i _ 3 _ h1
theorem plus_new (x y m : Nat) (f : Int) (hf1 : -9999 ≤ f) (hf2 : f ≤ 9999) (hm : (x : Int) + f * (y : Int) = (m : Int)) (ad1 ad2 : Option Addr) (c1 c2 n1 n2 : Nat) (w : World) (h1 : NatAt w ad1 n1 c1 x) (h2 : NatAt w ad2 n2 c2 y) (hn1 : n1 ≤ 1000) (hn2 : n2 ≤ 1000) :
 Calls Tryz.prog 140 #[.slice ad1 n1 c1, .slice ad2 n2 c2, .int .i64 f] w (NatNew w m) := by
 obtain ⟨e1, H1⟩ := h1
 obtain ⟨e2, H2⟩ := h2
 have ha := grps_lt x
 have hb := grps_lt y
 have va := valG_grps x
 have vb := valG_grps y
 obtain ⟨a, hae⟩ : ∃ a, grps x = a := ⟨_, rfl⟩
 obtain ⟨b, hbe⟩ : ∃ b, grps y = b := ⟨_, rfl⟩
 rw [hae] at ha va H1 e1
 rw [hbe] at hb vb H2 e2
 obtain ⟨N, hN⟩ : ∃ N, max n1 n2 + 1 = N := ⟨_, rfl⟩
 have hN1 : n1 + 1 ≤ N := by omega
 have hN2 : n2 + 1 ≤ N := by omega
 have hNb : N ≤ 1001 := by omega
 have hval : (valG a : Int) + f * (valG b : Int) = (m : Int) := by rw [va, vb]; exact hm
 have hlt := plusG_lt ha hb hf2 hval (by rw [e1]; exact hN1) (by rw [e2]; exact hN2)
 have hst := plusG_start a b f N ha (by rw [e1]; omega)
 rw [e1] at hst
 obtain ⟨O, hO⟩ : ∃ O, List.replicate N 0 = O := ⟨_, rfl⟩
 have hOl : O.length = N := by rw [← hO]; simp
 have hmk := fun W (z : Int) (hz : z = (N : Int)) => make_nat N (by omega) W z hz
 rw [hO] at hmk
 have hbn : Below w.heap.size w (w.alloc (.cells (numVals .i64 O).toArray 3)) := (Below.refl _ w).alloc (Nat.le_refl _) _
 have hnew := isI_new w O
 have hcp : O.take 0 ++ (a ++ O.drop (0 + n1)) = a ++ List.replicate (N - n1) 0 := by rw [← hO]; simp
 have hH1 := H1.below hbn (Nat.le_refl _)
 have HA := hid ha; have HB := hid hb; have HH2 := hid H2; have HH1 := hid hH1; have E1 := hid e1; have E2 := hid e2; have HV := hid hval; have HLT := hid hlt; have HST := hid hst; have HBN := hid hbn; have HNEW := hid hnew; have HCP := hid hcp; have HOL := hid hOl
 clear ha hb va vb H1 H2 hH1 e1 e2 hae hbe hval hlt hst hbn hnew hcp hOl hO hm
 rcases Nat.lt_or_ge n1 n2 with hc | hc
 · have hci : (n1 : Int) < (n2 : Int) := by omega
   have hmk1 := fun W => hmk W ((n2 : Int) + 1) (by omega)
   clear hmk hN
   go_enter Tryz.func140, Tryz.ntmps140
   go_wp2_with (refine walk_copyN (o := ⟨some 19, _, _, _, _, _⟩) (w0 := w) rfl (.tmp 17) (.tmp 18) rfl w.heap.size 0 N N n1 c1 _ ad1 O a rfl rfl HNEW.out HH1.out E1.out (by omega) (fun _ => rfl) (by rw [HOL.out]; omega) HBN.out (Nat.le_refl _) ?_; intro w2 hI2 hb2)
   rw [HCP.out] at hI2
   go_loopw [8, 22] (fun c i wr => ∃ (out : List Nat) (k : Nat) (q : Int), k ≤ N ∧ i = .int .i64 k ∧ c = .int .i64 q ∧ Hid (PlusG a b f N out q k) ∧ Hid (IsI wr w.heap.size out) ∧ Hid (Below w.heap.size w wr)) (fun _ i _ => N - (RowKit.intOf i).toNat)
   case atStart => exact ⟨_, 0, 0, Nat.zero_le _, rfl, rfl, HST.out, hI2, hb2⟩
   obtain ⟨out, k, q, hk, rfl, rfl, hinv, hIs, hbr⟩ := hrel
   by_cases hA : k < N
   · have hA2 : (k : Int) < (N : Int) := by omega
     have hq1 := hinv.out.2.2.2.1
     have hq2 := hinv.out.2.2.2.2.1
     have hol := hinv.out.1
     have ck := hIs.out.cell k (by rw [hol]; exact hA)
     have fk := hIs.out.frozen k
     have j5 := fun w' => atN w.heap.size 0 N N k (k : Int) rfl hA w'
     rw [Nat.zero_add] at j5
     have ol := getG_grp hinv.out.2.1 k
     have hstp := fun d c' => plusG_step HB.out hf1 hf2 hinv.out hA d c'
     have hIs1 := fun v x hx => hIs.out.store k v x hx
     have hIs2 := fun v x y hx => hIs.out.store2 k v x y hx
     have hb1 := fun v => hbr.out.setCell (p := ⟨w.heap.size, k, none⟩) (Nat.le_refl _) v
     have hb2' := fun v v2 => (hb1 v).setCell (p := ⟨w.heap.size, k, none⟩) (Nat.le_refl _) v2
     obtain ⟨o, ho⟩ : ∃ o, out.getD k 0 = o := ⟨_, rfl⟩
     rw [ho] at ck ol hstp
     have HS1 := hid hIs1; have HS2 := hid hIs2; have HB1 := hid hb1; have HB2 := hid hb2'
     clear hIs1 hIs2 hb1 hb2' hol ho hinv hIs
     by_cases hB : k < n2
     · have hB2 : (k : Int) < (n2 : Int) := by omega
       have kb : k < b.length := by rw [E2.out]; exact hB
       obtain ⟨g2, o2, rfl, hg2, hs2⟩ := HH2.out.at (by omega)
       have cb := (hs2.below hbr.out hg2) k kb
       have yl := getG_grp HB.out k
       have j2 := fun w => atN g2 o2 n2 c2 k (k : Int) rfl (by omega) w
       obtain ⟨z, hz⟩ : ∃ z, b.getD k 0 = z := ⟨_, rfl⟩
       rw [hz] at cb yl hstp
       obtain ⟨p, hp⟩ : ∃ p, f * (z : Int) = p := ⟨_, rfl⟩
       have hp1 : -99980001 ≤ p ∧ p ≤ 99980001 := by
        have a1 : f * (z : Int) ≤ 9999 * (z : Int) := Int.mul_le_mul_of_nonneg_right hf2 (by omega)
        have a2 : (-9999) * (z : Int) ≤ f * (z : Int) := Int.mul_le_mul_of_nonneg_right hf1 (by omega)
        omega
       rw [hp] at hstp
       obtain ⟨hp1, hp2⟩ := hp1
       have hw1 : IntKind.i64.wrap p = p := IntWalk.i64_in _ (by omega)
       clear hbr hz kb hs2
       obtain ⟨d, c', r, s, hd, hc', hrm, hsm, hpos, hr1, hr2, hs1, hs2, hcase⟩ := floor_cases (q + (o : Int) + p) (by omega)
       have hst2 := hstp d c' hd hc'
       clear hstp hd hc'
       rcases hcase with ⟨hr0, hr, hs⟩ | ⟨hr0, hr, hs⟩
       · have HR := hid hr; have HC := hid hs
         have hz : ¬ r < 0 := by omega
         clear hr hs
         by_cases h0 : 0 ≤ q + (o : Int) + p
         · obtain ⟨he1, he2⟩ := hpos h0
           clear hpos
           have HST := hid hst2
           clear hst2
           go_wp2_with fail
           go_roundw
           case rel => exact ⟨out.set k d, k + 1, c', by omega, by go_num, congrArg (Value.int .i64) HC.out, HST.out, HS1.out d r HR.out, HB1.out _⟩
           case measure => simp [RowKit.intOf]; omega
         clear hpos
         have HST := hid hst2
         clear hst2
         go_wp2_with fail
         go_roundw
         case rel => exact ⟨out.set k d, k + 1, c', by omega, by go_num, congrArg (Value.int .i64) HC.out, HST.out, HS1.out d r HR.out, HB1.out _⟩
         case measure => simp [RowKit.intOf]; omega
       have HR := hid hr; have HC := hid hs
       clear hr hs
       have h0 : ¬ 0 ≤ q + (o : Int) + p := fun h => by have := hpos h; omega
       clear hpos
       have HST := hid hst2
       clear hst2
       go_wp2_with fail
       go_roundw
       case rel => exact ⟨out.set k d, k + 1, c', by omega, by go_num, congrArg (Value.int .i64) HC.out, HST.out, HS2.out d (r + 10000) r HR.out, HB2.out _ _⟩
       case measure => simp [RowKit.intOf]; omega
     have hB2 : ¬ (k : Int) < (n2 : Int) := by omega
     have yz : b.getD k 0 = 0 := by rw [List.getD_eq_getElem?_getD, List.getElem?_eq_none (by rw [E2.out]; omega)]; rfl
     rw [yz, show f * ((0 : Nat) : Int) = 0 by simp, Int.add_zero] at hstp
     clear hbr yz
     obtain ⟨d, c', r, s, hd, hc', hrm, hsm, hpos, hr1, hr2, hs1, hs2, hcase⟩ := floor_cases (q + (o : Int)) (by omega)
     have hst2 := hstp d c' hd hc'
     clear hstp hd hc'
     rcases hcase with ⟨hr0, hr, hs⟩ | ⟨hr0, hr, hs⟩
     · have HR := hid hr; have HC := hid hs
       have hz : ¬ r < 0 := by omega
       clear hr hs
       by_cases h0 : 0 ≤ q + (o : Int)
       · obtain ⟨he1, he2⟩ := hpos h0
         clear hpos
         have HST := hid hst2
         clear hst2
         go_wp2_with fail
         go_roundw
         case rel => exact ⟨out.set k d, k + 1, c', by omega, by go_num, congrArg (Value.int .i64) HC.out, HST.out, HS1.out d r HR.out, HB1.out _⟩
         case measure => simp [RowKit.intOf]; omega
       clear hpos
       have HST := hid hst2
       clear hst2
       go_wp2_with fail
       go_roundw
       case rel => exact ⟨out.set k d, k + 1, c', by omega, by go_num, congrArg (Value.int .i64) HC.out, HST.out, HS1.out d r HR.out, HB1.out _⟩
       case measure => simp [RowKit.intOf]; omega
     have HR := hid hr; have HC := hid hs
     clear hr hs
     have h0 : ¬ 0 ≤ q + (o : Int) := fun h => by have := hpos h; omega
     clear hpos
     have HST := hid hst2
     clear hst2
     go_wp2_with fail
     go_roundw
     case rel => exact ⟨out.set k d, k + 1, c', by omega, by go_num, congrArg (Value.int .i64) HC.out, HST.out, HS2.out d (r + 10000) r HR.out, HB2.out _ _⟩
     case measure => simp [RowKit.intOf]; omega
   have hkN : k = N := by omega
   subst hkN
   have hA2 : ¬ (k : Int) < (k : Int) := by omega
   have hfin := plusG_end (by rw [E1.out]; omega) (by rw [E2.out]; omega) hinv.out HV.out HLT.out
   have hol := hinv.out.1
   have hog := hinv.out.2.1
   have hH := hIs.out.held k hol (by omega)
   have hpost := nat_trim (w := w) hog hIs.out hol (by omega) hfin hbr.out (Nat.le_refl _)
   have ct := fun W (e : wr = W) => trimmed_any3 out hog (some ⟨w.heap.size, 0, none⟩) k W (by rw [← e]; exact hH) k hol
   obtain ⟨L, hL⟩ : ∃ L, (trimG out).length = L := ⟨_, rfl⟩
   rw [hL] at hpost ct
   have HPOST := hid hpost; have CT := hid ct
   clear hpost ct hL hfin hog hol hH hinv hIs hbr
   go_wp2_with fail
   refine (CT.out _ rfl).mono ?_
   rintro e w3 ⟨rfl, rfl⟩
   go_wp2
   go_ret
   exact HPOST.out
 have hci : (n2 : Int) ≤ (n1 : Int) := by omega
 have hmk1 := fun W => hmk W ((n1 : Int) + 1) (by omega)
 clear hmk hN
 go_enter Tryz.func140, Tryz.ntmps140
 go_wp2_with (refine walk_copyN (o := ⟨some 19, _, _, _, _, _⟩) (w0 := w) rfl (.tmp 17) (.tmp 18) rfl w.heap.size 0 N N n1 c1 _ ad1 O a rfl rfl HNEW.out HH1.out E1.out (by omega) (fun _ => rfl) (by rw [HOL.out]; omega) HBN.out (Nat.le_refl _) ?_; intro w2 hI2 hb2)
 rw [HCP.out] at hI2
 go_loopw [8, 22] (fun c i wr => ∃ (out : List Nat) (k : Nat) (q : Int), k ≤ N ∧ i = .int .i64 k ∧ c = .int .i64 q ∧ Hid (PlusG a b f N out q k) ∧ Hid (IsI wr w.heap.size out) ∧ Hid (Below w.heap.size w wr)) (fun _ i _ => N - (RowKit.intOf i).toNat)
 case atStart => exact ⟨_, 0, 0, Nat.zero_le _, rfl, rfl, HST.out, hI2, hb2⟩
 obtain ⟨out, k, q, hk, rfl, rfl, hinv, hIs, hbr⟩ := hrel
 by_cases hA : k < N
 · have hA2 : (k : Int) < (N : Int) := by omega
   have hq1 := hinv.out.2.2.2.1
   have hq2 := hinv.out.2.2.2.2.1
   have hol := hinv.out.1
   have ck := hIs.out.cell k (by rw [hol]; exact hA)
   have fk := hIs.out.frozen k
   have j5 := fun w' => atN w.heap.size 0 N N k (k : Int) rfl hA w'
   rw [Nat.zero_add] at j5
   have ol := getG_grp hinv.out.2.1 k
   have hstp := fun d c' => plusG_step HB.out hf1 hf2 hinv.out hA d c'
   have hIs1 := fun v x hx => hIs.out.store k v x hx
   have hIs2 := fun v x y hx => hIs.out.store2 k v x y hx
   have hb1 := fun v => hbr.out.setCell (p := ⟨w.heap.size, k, none⟩) (Nat.le_refl _) v
   have hb2' := fun v v2 => (hb1 v).setCell (p := ⟨w.heap.size, k, none⟩) (Nat.le_refl _) v2
   obtain ⟨o, ho⟩ : ∃ o, out.getD k 0 = o := ⟨_, rfl⟩
   rw [ho] at ck ol hstp
   have HS1 := hid hIs1; have HS2 := hid hIs2; have HB1 := hid hb1; have HB2 := hid hb2'
   clear hIs1 hIs2 hb1 hb2' hol ho hinv hIs
   by_cases hB : k < n2
   · have hB2 : (k : Int) < (n2 : Int) := by omega
     have kb : k < b.length := by rw [E2.out]; exact hB
     obtain ⟨g2, o2, rfl, hg2, hs2⟩ := HH2.out.at (by omega)
     have cb := (hs2.below hbr.out hg2) k kb
     have yl := getG_grp HB.out k
     have j2 := fun w => atN g2 o2 n2 c2 k (k : Int) rfl (by omega) w
     obtain ⟨z, hz⟩ : ∃ z, b.getD k 0 = z := ⟨_, rfl⟩
     rw [hz] at cb yl hstp
     obtain ⟨p, hp⟩ : ∃ p, f * (z : Int) = p := ⟨_, rfl⟩
     have hp1 : -99980001 ≤ p ∧ p ≤ 99980001 := by
      have a1 : f * (z : Int) ≤ 9999 * (z : Int) := Int.mul_le_mul_of_nonneg_right hf2 (by omega)
      have a2 : (-9999) * (z : Int) ≤ f * (z : Int) := Int.mul_le_mul_of_nonneg_right hf1 (by omega)
      omega
     rw [hp] at hstp
     obtain ⟨hp1, hp2⟩ := hp1
     have hw1 : IntKind.i64.wrap p = p := IntWalk.i64_in _ (by omega)
     clear hbr hz kb hs2
     obtain ⟨d, c', r, s, hd, hc', hrm, hsm, hpos, hr1, hr2, hs1, hs2, hcase⟩ := floor_cases (q + (o : Int) + p) (by omega)
     have hst2 := hstp d c' hd hc'
     clear hstp hd hc'
     rcases hcase with ⟨hr0, hr, hs⟩ | ⟨hr0, hr, hs⟩
     · have HR := hid hr; have HC := hid hs
       have hz : ¬ r < 0 := by omega
       clear hr hs
       by_cases h0 : 0 ≤ q + (o : Int) + p
       · obtain ⟨he1, he2⟩ := hpos h0
         clear hpos
         have HST := hid hst2
         clear hst2
         go_wp2_with fail
         go_roundw
         case rel => exact ⟨out.set k d, k + 1, c', by omega, by go_num, congrArg (Value.int .i64) HC.out, HST.out, HS1.out d r HR.out, HB1.out _⟩
         case measure => simp [RowKit.intOf]; omega
       clear hpos
       have HST := hid hst2
       clear hst2
       go_wp2_with fail
       go_roundw
       case rel => exact ⟨out.set k d, k + 1, c', by omega, by go_num, congrArg (Value.int .i64) HC.out, HST.out, HS1.out d r HR.out, HB1.out _⟩
       case measure => simp [RowKit.intOf]; omega
     have HR := hid hr; have HC := hid hs
     clear hr hs
     have h0 : ¬ 0 ≤ q + (o : Int) + p := fun h => by have := hpos h; omega
     clear hpos
     have HST := hid hst2
     clear hst2
     go_wp2_with fail
     go_roundw
     case rel => exact ⟨out.set k d, k + 1, c', by omega, by go_num, congrArg (Value.int .i64) HC.out, HST.out, HS2.out d (r + 10000) r HR.out, HB2.out _ _⟩
     case measure => simp [RowKit.intOf]; omega
   have hB2 : ¬ (k : Int) < (n2 : Int) := by omega
   have yz : b.getD k 0 = 0 := by rw [List.getD_eq_getElem?_getD, List.getElem?_eq_none (by rw [E2.out]; omega)]; rfl
   rw [yz, show f * ((0 : Nat) : Int) = 0 by simp, Int.add_zero] at hstp
   clear hbr yz
   obtain ⟨d, c', r, s, hd, hc', hrm, hsm, hpos, hr1, hr2, hs1, hs2, hcase⟩ := floor_cases (q + (o : Int)) (by omega)
   have hst2 := hstp d c' hd hc'
   clear hstp hd hc'
   rcases hcase with ⟨hr0, hr, hs⟩ | ⟨hr0, hr, hs⟩
   · have HR := hid hr; have HC := hid hs
     have hz : ¬ r < 0 := by omega
     clear hr hs
     by_cases h0 : 0 ≤ q + (o : Int)
     · obtain ⟨he1, he2⟩ := hpos h0
       clear hpos
       have HST := hid hst2
       clear hst2
       go_wp2_with fail
       go_roundw
       case rel => exact ⟨out.set k d, k + 1, c', by omega, by go_num, congrArg (Value.int .i64) HC.out, HST.out, HS1.out d r HR.out, HB1.out _⟩
       case measure => simp [RowKit.intOf]; omega
     clear hpos
     have HST := hid hst2
     clear hst2
     go_wp2_with fail
     go_roundw
     case rel => exact ⟨out.set k d, k + 1, c', by omega, by go_num, congrArg (Value.int .i64) HC.out, HST.out, HS1.out d r HR.out, HB1.out _⟩
     case measure => simp [RowKit.intOf]; omega
   have HR := hid hr; have HC := hid hs
   clear hr hs
   have h0 : ¬ 0 ≤ q + (o : Int) := fun h => by have := hpos h; omega
   clear hpos
   have HST := hid hst2
   clear hst2
   go_wp2_with fail
   go_roundw
   case rel => exact ⟨out.set k d, k + 1, c', by omega, by go_num, congrArg (Value.int .i64) HC.out, HST.out, HS2.out d (r + 10000) r HR.out, HB2.out _ _⟩
   case measure => simp [RowKit.intOf]; omega
 have hkN : k = N := by omega
 subst hkN
 have hA2 : ¬ (k : Int) < (k : Int) := by omega
 have hfin := plusG_end (by rw [E1.out]; omega) (by rw [E2.out]; omega) hinv.out HV.out HLT.out
 have hol := hinv.out.1
 have hog := hinv.out.2.1
 have hH := hIs.out.held k hol (by omega)
 have hpost := nat_trim (w := w) hog hIs.out hol (by omega) hfin hbr.out (Nat.le_refl _)
 have ct := fun W (e : wr = W) => trimmed_any3 out hog (some ⟨w.heap.size, 0, none⟩) k W (by rw [← e]; exact hH) k hol
 obtain ⟨L, hL⟩ : ∃ L, (trimG out).length = L := ⟨_, rfl⟩
 rw [hL] at hpost ct
 have HPOST := hid hpost; have CT := hid ct
 clear hpost ct hL hfin hog hol hH hinv hIs hbr
 go_wp2_with fail
 refine (CT.out _ rfl).mono ?_
 rintro e w3 ⟨rfl, rfl⟩
 go_wp2
 go_ret
 exact HPOST.out
theorem plus_any3 (x y m : Nat) (f : Int) (hf1 : -9999 ≤ f) (hf2 : f ≤ 9999) (hm : (x : Int) + f * (y : Int) = (m : Int)) (ad1 ad2 : Option Addr) (c1 c2 n1 n2 : Nat) (w : World) (h1 : NatAt w ad1 n1 c1 x) (h2 : NatAt w ad2 n2 c2 y) (hn1 : n1 ≤ 1000) (hn2 : n2 ≤ 1000) :
 Calls Tryz.prog 140 #[.slice ad1 n1 c1, .slice ad2 n2 c2, .int .i64 f] w (NatPost w m) := (plus_new x y m f hf1 hf2 hm ad1 ad2 c1 c2 n1 n2 w h1 h2 hn1 hn2).mono NatNew.post
theorem multiple_any (y f : Nat) (hf : f < 10000) (ad : Option Addr) (c n : Nat) (w : World) (h : NatAt w ad n c y) (hn : n ≤ 1000) :
 Calls Tryz.prog 172 #[.slice ad n c, .int .i64 (f : Nat)] w (NatPost w (y * f)) := by
 have c1 := fun W (e : w = W) => plus_any3 0 y (y * f) (f : Int) (by omega) (by omega) (by rw [Int.natCast_mul, Int.mul_comm]; simp) none ad 0 c 0 n W ⟨rfl, HoldI.nil _ _ _⟩ (by rw [← e]; exact h) (by omega) hn
 have C1 := hid c1
 clear c1 h
 go_enter Tryz.func172, Tryz.ntmps172
 go_wp2_with fail
 refine (C1.out _ rfl).mono ?_
 rintro e w1 ⟨ad1, cap1, m1, rfl, h1, h2, h3⟩
 go_wp2
 go_ret
 exact ⟨ad1, cap1, m1, rfl, h1, h2, h3⟩
end Go.Proofs.YtcglcgphgahnpaaGreatDoor
