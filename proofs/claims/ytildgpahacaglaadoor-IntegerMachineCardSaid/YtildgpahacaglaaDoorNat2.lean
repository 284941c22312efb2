/-
  The contract of package integer's natural.followed.
-/
import Derived.Test.YtildgpahacaglaaDoorNat1
namespace Go.Proofs.YtildgpahacaglaaDoor
open Go Go.Proofs Go.RowKit Go.Lib

theorem isI_new (W : World) (l : List Nat) : IsI (W.alloc (.cells (numVals .i64 l).toArray 3)) W.heap.size l := heap_alloc_new W _
theorem IsI.alloc {W : World} {g : Nat} {l : List Nat} (h : IsI W g l) (o : Obj) : IsI (W.alloc o) g l :=
  (Below.heap_alloc W o g (Array.getElem?_eq_some_iff.1 h).1).trans h
theorem IsI.held {W : World} {g : Nat} {l : List Nat} (h : IsI W g l) (n : Nat) (hn : l.length = n) (hl : n ≤ 1099511627776) : HoldI W (some ⟨g, 0, none⟩) n l := by
  subst hn; exact h.holds hl
/-- What has been trimmed is a natural. -/
theorem nat_trim {w W : World} {g n m : Nat} {l : List Nat} (hg : IsGrp l) (h : IsI W g l) (hn : l.length = n) (hl : n ≤ 1099511627776) (ht : trimG l = grps m) (hb : Below w.heap.size w W) (hge : w.heap.size ≤ g) : NatNew w m (.returned (.slice (some ⟨g, 0, none⟩) (trimG l).length n)) W := by
  have h1 := (h.held n hn hl).take (trimG l).length
  rw [← trimG_take n hn hg] at h1
  rw [ht] at h1 ⊢
  exact ⟨_, _, _, _, rfl, rfl, h1, hb, hge⟩
theorem copy_info : (Tryd.prog.info? 3).map (·.size) = some 1 := by
  have h := info_i64
  cases hq : Tryd.prog.info? 3 with
  | none => rw [hq] at h; cases h
  | some i => rw [hq] at h; simp at h ⊢; exact h.2.1
/-- A copy of numbers into a row of numbers. -/
theorem walk_copyN {w w0 : World} {ops : Array Oper} {rest : List Oper} {o : Oper} {a : Act} {Q : Exit → Act → World → Prop} (hgd : o.guard = none) (d s : Operand)
    (ho : o.op = .call { callee := .builtin .copy, args := #[d, s], argTypes := #[49, 49] })
    (g off k c n cap : Nat) (dp sp : Option Addr) (out l : List Nat) (hd : a.eval d = .slice dp k c) (hs : a.eval s = .slice sp n cap) (hI : IsI w g out) (hH : HoldI w sp cap l) (hn : l.length = n)
    (hk : n ≤ k) (hdp : 0 < n → dp = some ⟨g, off, none⟩) (hfit : off + n ≤ out.length) (hb : Below w0.heap.size w0 w) (hB : w0.heap.size ≤ g)
    (h : ∀ w', IsI w' g (out.take off ++ (l ++ out.drop (off + n))) → Below w0.heap.size w0 w' → wpList Tryd.prog ops Q rest (a.put o.dst (goInt n)) w') : wpList Tryd.prog ops Q (o :: rest) a w := by
  have hlen : (numVals .i64 l).length = n := by simp [numVals, hn]
  refine wpList_copy_splice hgd d s 49 49 ho 3 Tryd.underlying49 copy_info dp sp k c n cap hd hs g off (numVals .i64 out) 3 hI (numVals .i64 l)
    (by rw [hlen]; exact (Nat.min_eq_left hk).symm) ?_ (by rw [hlen]; simpa [numVals] using hfit) numVals_one w0.heap.size w0 hb hB ?_
  · rw [hlen]
    intro h0
    refine ⟨hdp h0, ?_⟩
    obtain ⟨g1, o1, rfl, _, hs1⟩ := hH.at (by omega)
    refine ⟨_, rfl, ?_⟩
    intro j v hj
    obtain ⟨h1, rfl⟩ := numVals_get hj
    rw [add_at]
    exact hs1 j h1
  · intro w' hw' hb'
    rw [hlen]
    refine h w' ?_ hb'
    have e := hw'.out
    unfold IsI
    rw [e]
    congr 3
    unfold splice
    rw [hlen]
    simp [numVals, List.map_take, List.map_drop]

set_option maxRecDepth 100000 in
set_option maxHeartbeats 4000000 in
theorem followed_new (n d : Nat) (hd : d < 10000) (ad : Option Addr) (cap m : Nat) (w : World) (h : NatAt w ad m cap n) (hm : m ≤ 1000) :
    Calls Tryd.prog 54 #[.slice ad m cap, .int .i64 (d : Nat)] w (NatNew w (d + 10000 * n)) := by
  obtain ⟨hm1, hH⟩ := h
  have hg := grps_lt n
  have hv := valG_grps n
  obtain ⟨l, hl⟩ : ∃ l, grps n = l := ⟨_, rfl⟩
  rw [hl] at hm1 hH hg hv
  have hmk := fun W => make_nat (m + 1) (by omega) W ((m : Int) + 1) (by omega)
  have hix := fun g w => atN g 0 (m + 1) (m + 1) 0 0 rfl (by omega) w
  obtain ⟨ad', hsl, _, hpos⟩ := sliceN_from (some ⟨w.heap.size, 0, none⟩) (m + 1) (m + 1) 1 1 rfl (by omega) (Nat.le_refl _)
  rw [show m + 1 - 1 = m by omega] at hsl
  have hp := fun (h0 : 0 < m) => hpos (by omega) w.heap.size 0 rfl
  rw [Nat.zero_add] at hp
  obtain ⟨O, hO⟩ : ∃ O, List.replicate (m + 1) 0 = O := ⟨_, rfl⟩
  have hOl : O.length = m + 1 := by rw [← hO]; simp
  have hOs : O.set 0 d = d :: List.replicate m 0 := by rw [← hO]; simp [List.replicate_succ]
  have hnew := isI_new w O
  rw [hO] at hmk
  have c0 := hnew.cell 0 (by omega)
  have f0 := hnew.frozen 0
  have hVs : (numVals .i64 O).set 0 (.int .i64 (d : Int)) = numVals .i64 (O.set 0 d) := by simp [numVals, List.map_set]
  have hst := isI_new w (O.set 0 d)
  rw [← hVs] at hst
  have hBn : Below w.heap.size w (w.alloc (.cells ((numVals .i64 O).set 0 (.int .i64 (d : Int))).toArray 3)) := (Below.refl _ w).alloc (Nat.le_refl _) _
  have hH2 := hH.below hBn (Nat.le_refl _)
  have hfin : trimG (d :: l) = grps (d + 10000 * n) := by rw [followed_trim, hv]
  have hgd : IsGrp (d :: l) := fun x hx => (List.mem_cons.1 hx).elim (fun e => by omega) (hg x)
  have HST := Lib.hid hst; have HBN := Lib.hid hBn; have HH2 := Lib.hid hH2; have HF := Lib.hid hfin; have HGD := Lib.hid hgd; have HP := Lib.hid hp; have HOL := Lib.hid hOl; have HOS := Lib.hid hOs; have HM1 := Lib.hid hm1
  obtain ⟨x0, hx0⟩ : ∃ x, O.getD 0 0 = x := ⟨_, rfl⟩
  rw [hx0] at c0
  clear hVs hst hBn hH2 hfin hgd hp hpos hH hg hv hl hO hOl hOs hnew hm1 hx0
  go_enter Tryd.func54, Tryd.ntmps54
  go_wp2_with (first | (refine walk_copyN (o := ⟨some 16, _, _, _, _, _⟩) (w0 := w) rfl (.tmp 14) (.tmp 15) rfl w.heap.size 1 m m m cap ad' ad (O.set 0 d) l rfl rfl HST.out HH2.out HM1.out (Nat.le_refl _) HP.out (by rw [List.length_set, HOL.out]; omega) HBN.out (Nat.le_refl _) ?_; intro w2 hI2 hb2))
  have hL : (O.set 0 d).take 1 ++ (l ++ (O.set 0 d).drop (1 + m)) = d :: l := by
    rw [HOS.out]
    rw [List.drop_of_length_le (by simp; omega)]
    simp
  rw [hL] at hI2
  have hlen : (d :: l).length = m + 1 := by rw [List.length_cons, HM1.out]
  refine (trimmed_any3 (d :: l) HGD.out (some ⟨w.heap.size, 0, none⟩) (m + 1) _ (hI2.held (m + 1) hlen (by omega)) (m + 1) hlen).mono ?_
  rintro e w3 ⟨rfl, rfl⟩
  have hpost := nat_trim (w := w) HGD.out hI2 hlen (by omega) HF.out hb2 (Nat.le_refl _)
  obtain ⟨q, hq⟩ : ∃ q, (trimG (d :: l)).length = q := ⟨_, rfl⟩
  rw [hq] at hpost ⊢
  have HPOST := Lib.hid hpost
  clear hpost hq hI2 hb2
  go_wp2
  go_ret
  exact HPOST.out
theorem followed_any (n d : Nat) (hd : d < 10000) (ad : Option Addr) (cap m : Nat) (w : World) (h : NatAt w ad m cap n) (hm : m ≤ 1000) :
    Calls Tryd.prog 54 #[.slice ad m cap, .int .i64 (d : Nat)] w (NatPost w (d + 10000 * n)) := (followed_new n d hd ad cap m w h hm).mono NatNew.post
end Go.Proofs.YtildgpahacaglaaDoor
