/-
  The contract of package integer's naturalOf.   The library's functions that look for or cut a minus at a text's beginning.   The contract of package integer's Valid.
-/
import Derived.Test.YtcglcgphgahnpaaGreatDoorJ08
import Derived.Test.YtcglcgphgahnpaaGreatDoorJ12
set_option maxRecDepth 100000
set_option maxHeartbeats 16000000
namespace Go.Proofs.YtcglcgphgahnpaaGreatDoor
open Go Go.Proofs Go.RowKit Go.Lib
theorem run_pushN (w w0 : World) (n : Nat) (ty : TypeId) (v : Value) (l p : List Nat) (hown : OwnI w n v l) (hb : Below n w0 w) (hn : n ≤ w.heap.size) (g o m c : Nat) (hm : p.length = m) (hc : NumsAt .i64 w g o p) (hl : l.length + m ≤ 17592186044416) :
 ∃ v' w', (Builtin.append_ #[119, 119] ty #[v, .slice (some ⟨g, o, none⟩) m c]).run Tryz.prog w = .ok v' w' ∧ OwnI w' n v' (l ++ p) ∧ Below n w0 w' ∧ w.grownBy w' v.ownBlock := by
 obtain ⟨i0, hi, hz0, hz1, hz2⟩ := info_parts info_i64
 subst hm
 obtain ⟨v', w', hrun, r1, r2, _⟩ := run_append_own (P := Tryz.prog) w n 119 ty 3 i0 (.int .i64 0) 1 8 Tryz.underlying119 hi hz0 hz1 hz2 rfl (by decide) v l.length (numVals .i64 l) hown
  ⟨g, o, none⟩ p.length c (numVals .i64 p) (by simp [numVals]) (by
   intro j u hj
   obtain ⟨h1, rfl⟩ := numVals_get hj
   rw [add_at]; exact hc j h1) numVals_one (by unfold maxLen; omega) (by omega) hn
 refine ⟨v', w', hrun, ?_, hb.grown r2 hn (own_ge hown), r2⟩
 unfold OwnI
 rw [numVals_append, List.length_append]
 exact r1
theorem walk_pushN {ops : Array Oper} {o : Oper} {rest : List Oper} {a : Act} {w w0 : World} {Q : Exit → Act → World → Prop}
 (hgd : o.guard = none) (s x : Operand) (hop : o.op = Op.call { callee := Callee.builtin Builtin.append, args := #[s, x], argTypes := #[119, 119] })
 (n : Nat) (v : Value) (l p : List Nat) (hs : a.eval s = v) (hown : OwnI w n v l) (hb : Below n w0 w) (hn : n ≤ w.heap.size) (g off m c : Nat) (hx : a.eval x = .slice (some ⟨g, off, none⟩) m c) (hm : p.length = m) (hc : NumsAt .i64 w g off p) (hl : l.length + m ≤ 17592186044416)
 (hK : ∀ v' w', OwnI w' n v' (l ++ p) → Below n w0 w' → wpList Tryz.prog ops Q rest (a.put o.dst v') w') : wpList Tryz.prog ops Q (o :: rest) a w := by
 refine wpList_plain hgd fun K hK' => ?_
 obtain ⟨v', w', hrun, r1, r2, _⟩ := run_pushN w w0 n o.type v l p hown hb hn g off m c hm hc hl
 unfold Oper.wp
 simp [execOp, hop, resolve, invoke, builtin, hs, hx, hrun, Result.andThen]
 exact hK' _ _ (hK v' w' r1 r2)
theorem maxB (w : World) (ts : Array TypeId) (t : TypeId) (x y m : Int) (hm : m = max x y) : (Builtin.max_ ts t #[.int .i64 x, .int .i64 y]).run Tryz.prog w = .ok (.int .i64 m) w := by
 subst hm
 simp [Builtin.max_, Builtin.max2]
 omega
theorem ownI_made (W : World) (base k : Nat) (hb : base ≤ W.heap.size) (hk : k ≤ 1000000) : OwnI (W.alloc (.cells (numVals .i64 (List.replicate k 0)).toArray 3)) base (.slice (some ⟨W.heap.size, 0, none⟩) 0 k) [] :=
 ⟨by simp [numVals], .inr ⟨W.heap.size, k, (numVals .i64 (List.replicate k 0)).toArray, rfl, hb, heap_alloc_new W _, Nat.zero_le _, by unfold maxLen; omega, by simp [numVals], by simp [numVals]⟩⟩
theorem make_nat0 (n : Nat) (hn : n ≤ 1000000) (W : World) (z : Int) (hz : z = (n : Nat)) :
 (Instr.makeSlice 119 (.int .i64 0) (.int .i64 z)).run Tryz.prog W = .ok (.slice (some ⟨W.heap.size, 0, none⟩) 0 n) (W.alloc (.cells (numVals .i64 (List.replicate n 0)).toArray 3)) := by
 subst hz
 obtain ⟨i0, hi, hz0, hz1, hz2⟩ := info_parts info_i64
 have h := run_make (P := Tryz.prog) W 119 3 i0 (.int .i64 0) Tryz.underlying119 hi hz0 .i64 .i64 (0 : Int) (n : Int) (by omega) (by omega) (by rw [hz2]; omega) (by omega)
 rw [hz1, Int.toNat_natCast, made_zeros] at h
 exact h
theorem naturalOf_any (s : ByteArray) (hs : ∀ x ∈ bytesL s, 48 ≤ x ∧ x < 58) (hsz : s.size ≤ 1000) (w : World) :
 Calls Tryz.prog 138 #[.string s] w (NatPost w (valD (digT (bytesL s)))) := by
 have hD := digT_dig hs
 have hDl : (digT (bytesL s)).length = s.size := by rw [digT_length, bytesL_length]
 have hget : ∀ i (h : i < s.size), (s[i]'h).toNat = 48 + (digT (bytesL s)).getD (s.size - 1 - i) 0 := by
  intro i h
  have h1 : i < (bytesL s).length := by rw [bytesL_length]; exact h
  have h2 := digT_get (bytesL s) i h1
  rw [bytesL_length] at h2
  have h3 : (bytesL s).getD i 0 = (s[i]'h).toNat := by rw [List.getD_eq_getElem?_getD, List.getElem?_eq_getElem h1, ← bytesL_get s i h]; rfl
  rw [h3] at h2
  have h4 := hs (s[i]'h).toNat (by rw [← bytesL_get s i h]; exact List.getElem_mem _)
  omega
 obtain ⟨D, hDe⟩ : ∃ D, digT (bytesL s) = D := ⟨_, rfl⟩
 rw [hDe] at hD hDl hget
 rw [hDe]
 obtain ⟨m, hm⟩ : ∃ m, s.size = m := ⟨_, rfl⟩
 have hm1 : m ≤ 1000 := by omega
 have hss : (s.size : Int) = (m : Int) := by omega
 rw [hm] at hDl
 have hk4 : (m : Int) / 4 + 1 = ((m / 4 + 1 : Nat) : Int) := by omega
 obtain ⟨K, hK⟩ : ∃ K, m / 4 + 1 = K := ⟨_, rfl⟩
 rw [hK] at hk4
 have hmk := fun W => make_nat0 K (by omega) W ((m : Int) / 4 + 1) hk4
 have hown0 := ownI_made w w.heap.size K (Nat.le_refl _) (by omega)
 obtain ⟨W0, hW0⟩ : ∃ W0, w.alloc (.cells (numVals .i64 (List.replicate K 0)).toArray 3) = W0 := ⟨_, rfl⟩
 have hb0 : Below w.heap.size w W0 := by rw [← hW0]; exact (Below.refl _ _).alloc (Nat.le_refl _) _
 rw [hW0] at hown0
 have HD := hid hD; have HDL := hid hDl; have HGET := hid hget; have HM := hid hm; have HOWN0 := hid hown0; have HB0 := hid hb0; have HW0 := hid hW0
 clear hD hDl hget hm hown0 hb0 hW0 hs hDe hK hk4
 go_enter Tryz.func138, Tryz.ntmps138
 go_wp2_with fail
 rw [HW0.out]
 go_loopw [3, 4] (fun v e wr => ∃ (out : List Nat) (j : Nat), 4 * j ≤ m + 3 ∧ e = .int .i64 ((m : Int) - 4 * (j : Int)) ∧ Hid (ParInv D out j) ∧ Hid (OwnI wr w.heap.size v out) ∧ Hid (Below w.heap.size w wr)) (fun _ e _ => (RowKit.intOf e + 4).toNat)
 case atStart => exact ⟨[], 0, by omega, by simp, par_start D, HOWN0.out, HB0.out⟩
 obtain ⟨out, j, hj, rfl, hpar, hown, hbr⟩ := hrel
 by_cases hlt : 4 * j < m
 · have hlt2 : (0 : Int) < (m : Int) - 4 * (j : Int) := by omega
   obtain ⟨en, hen⟩ : ∃ en, m - 4 * j = en := ⟨_, rfl⟩
   have heni : (m : Int) - 4 * (j : Int) = (en : Int) := by omega
   rw [heni] at hlt2 ⊢
   obtain ⟨st, hst⟩ : ∃ st, en - 4 = st := ⟨_, rfl⟩
   have hmx := fun (w' : World) => maxB w' #[3, 3] 3 0 ((en : Int) - 4) (st : Int) (by omega)
   have hsten : st ≤ en := by omega
   have henm : en ≤ m := by omega
   have hpl := hpar.out.1
   have hstep := par_step (b := m - st) HD.out hpar.out (by rw [HDL.out]; omega) (by rw [HDL.out]; omega)
   have hsl := seg_lt HD.out (4 * j) (m - st)
   have hp4 : seg D (4 * j) (m - st) < 10000 := Nat.lt_of_lt_of_le hsl (Nat.pow_le_pow_right (n := 10) (by decide) (show m - st - 4 * j ≤ 4 by omega))
   have hsegm : m - en = 4 * j := by omega
   have hol : out.length + 1 ≤ 17592186044416 := by omega
   have HSTEP := hid hstep; have HP4 := hid hp4; have HSEG := hid hsegm
   clear hstep hsl hp4 hpar hsegm
   go_wp2_with fail
   go_loopw [5, 6] (fun vg vi wi => ∃ i : Nat, st ≤ i ∧ i ≤ en ∧ vi = .int .i64 (i : Int) ∧ vg = .int .i64 ((seg D (m - i) (m - st) : Nat) : Int) ∧ wr = wi) (fun _ vi _ => (((en : Int) - RowKit.intOf vi)).toNat)
   case atStart => exact ⟨st, Nat.le_refl _, hsten, rfl, by rw [seg_empty]; rfl, rfl⟩
   obtain ⟨i, hi1, hi2, rfl, rfl, rfl⟩ := hrel
   by_cases hil : i < en
   · have hil2 : (i : Int) < (en : Int) := by omega
     have his : i < s.size := by rw [HM.out]; omega
     have hch := HGET.out i his
     rw [HM.out] at hch
     have hsg := seg_step D (m - (i + 1)) (m - st) (by omega) (by rw [HDL.out]; omega)
     rw [show m - (i + 1) + 1 = m - i by omega] at hsg
     rw [show m - 1 - i = m - (i + 1) by omega] at hch
     have hd10 := getD_dig HD.out (m - (i + 1))
     have hgl : seg D (m - i) (m - st) < 1000 := Nat.lt_of_lt_of_le (seg_lt HD.out _ _) (Nat.pow_le_pow_right (n := 10) (by decide) (show m - st - (m - i) ≤ 3 by omega))
     obtain ⟨g, hg⟩ : ∃ g, seg D (m - i) (m - st) = g := ⟨_, rfl⟩
     obtain ⟨dd, hdd⟩ : ∃ g, D.getD (m - (i + 1)) 0 = g := ⟨_, rfl⟩
     obtain ⟨g2, hg2⟩ : ∃ g, seg D (m - (i + 1)) (m - st) = g := ⟨_, rfl⟩
     rw [hg] at hsg hgl ⊢
     rw [hdd] at hsg hch hd10
     rw [hg2] at hsg
     have hsgi : 10 * (g : Int) + (dd : Int) = (g2 : Int) := by omega
     have HG2 := hid hg2; have HSG := hid hsgi
     clear hsg hg hdd hg2 hsgi
     go_wp2_with fail
     go_roundw
     case rel => exact ⟨i + 1, by omega, by omega, by go_num, by rw [HG2.out]; exact congrArg (Value.int .i64) (by have := HSG.out; omega), trivial⟩
     case measure => simp [RowKit.intOf]; omega
   obtain rfl : i = en := by omega
   have hil2 : ¬ (i : Int) < (i : Int) := by omega
   rw [HSEG.out]
   obtain ⟨g, hg⟩ : ∃ g, seg D (4 * j) (m - st) = g := ⟨_, rfl⟩
   have HG' := hid hg
   rw [hg]
   clear hg
   have hsize := hbr.out.size
   go_wp2_with (first | (at_builtin; refine walk_pushN (w0 := w) rfl _ _ rfl w.heap.size _ out [g] rfl (hown.out.alloc _) (hbr.out.alloc hsize _) (Nat.le_trans hsize (by simp)) wr.heap.size 0 1 1 rfl rfl (new_num1 .i64 wr _ g rfl _) hol ?_; intro v3 W3 ho3 hb3))
   go_roundw
   case rel => exact ⟨out ++ [g], j + 1, by omega, by go_num, by rw [← HG'.out]; exact HSTEP.out, ho3, hb3⟩
   case measure => simp [RowKit.intOf]; omega
 have hlt2 : ¬ (0 : Int) < (m : Int) - 4 * (j : Int) := by omega
 have hpl := hpar.out.1
 have hfin := par_end hpar.out (by rw [HDL.out]; omega)
 have hog := hpar.out.2.1
 obtain ⟨ad, cap, rfl, hh, _⟩ := own_hold hown.out j hpl (by omega)
 have ct := trimmed_any3 out hog ad cap wr hh j hpl
 have htk := trimG_take j hpl hog
 rw [hfin] at ct htk
 have hh2 := hh.take (grps (valD D)).length
 rw [← htk] at hh2
 have CT := hid ct; have HH2 := hid hh2
 clear ct htk hh hh2 hfin hog hpar hpl hown
 go_wp2_with fail
 refine CT.out.mono ?_
 rintro e w9 ⟨rfl, rfl⟩
 go_wp2
 go_ret
 exact ⟨ad, cap, _, rfl, rfl, HH2.out, hbr.out⟩
end Go.Proofs.YtcglcgphgahnpaaGreatDoor
namespace Go.Proofs.YtcglcgphgahnpaaGreatDoor
open Go Go.Proofs Go.RowKit Go.Lib
def minusB (s : ByteArray) : Bool := decide ((bytesL s).head? = some 45)
def behindB (s : ByteArray) : ByteArray := if minusB s then s.extract 1 s.size else s
theorem one_byte (s : ByteArray) (h : 0 < s.size) : (s.extract 0 1).toList = [s[0]'h] := by
 rw [ByteArray.toList_eq]
 have : (s.extract 0 1).data = #[s[0]'h] := by
  apply Array.ext
  · simp; have := h; simp only [ByteArray.size] at this; omega
  intro i h1 h2
  simp at h2
  subst h2
  simp
  rfl
 rw [this]
theorem minus_one (s : ByteArray) (h : 0 < s.size) : minusB s = ((s.extract 0 1).toList == [45]) := by
 rw [one_byte s h]
 unfold minusB
 rw [bytesL_cons s h]
 rw [Bool.eq_iff_iff, decide_eq_true_eq, beq_iff_eq]
 simp
 exact ⟨fun e => UInt8.toNat_inj.1 e, fun e => by rw [e]; rfl⟩
theorem minus_none (s : ByteArray) (h : s.size = 0) : minusB s = false := by
 unfold minusB
 have : bytesL s = [] := List.eq_nil_of_length_eq_zero (by rw [bytesL_length]; exact h)
 rw [this]; rfl
theorem slice_to1 (s : ByteArray) (h : 0 < s.size) (w : World) : (Instr.slice 9 (.string s) none (some (.int .i64 1)) none).run Tryz.prog w = .ok (.string (s.extract 0 1)) w := by
 have hj : (0 : Int) ≤ 1 ∧ (1 : Int) ≤ (s.size : Int) := ⟨by omega, by omega⟩
 simp [Instr.slice, Instr.sliceBounds, Instr.sliceBound, asIntOf, run_underlying Tryz.underlying9, hj]
theorem slice_from1 (s : ByteArray) (h : 0 < s.size) (w : World) : (Instr.slice 9 (.string s) (some (.int .i64 1)) none none).run Tryz.prog w = .ok (.string (s.extract 1 s.size)) w := by
 have hj : (0 : Int) ≤ 1 ∧ (1 : Int) ≤ (s.size : Int) := ⟨by omega, by omega⟩
 simp [Instr.slice, Instr.sliceBounds, Instr.sliceBound, asIntOf, run_underlying Tryz.underlying9, hj]
theorem has_any (s : ByteArray) (hs : s.size ≤ 1099511627776) (w : World) :
 Calls Tryz.prog 136 #[.string s, .string ⟨#[45]⟩] w fun e w' => e = .returned (.bool (minusB s)) ∧ w = w' := by
 by_cases h0 : s.size = 0
 · have hm := minus_none s h0
   rw [hm]
   have hi : (s.size : Int) = 0 := by omega
   go_enter Tryz.func136, Tryz.ntmps136
   go_wp2
   go_ret
   exact ⟨rfl, rfl⟩
 have h1 : 0 < s.size := by omega
 have hm := minus_one s h1
 have hsl := fun w => slice_to1 s h1 w
 have hi : (1 : Int) ≤ (s.size : Int) := by omega
 obtain ⟨T, hT⟩ : ∃ T, s.extract 0 1 = T := ⟨_, rfl⟩
 rw [hT] at hm hsl
 obtain ⟨b, hb⟩ : ∃ b, minusB s = b := ⟨_, rfl⟩
 rw [hb] at hm ⊢
 have hm2 : (T.toList == [45]) = b := hm.symm
 have hm3 : (T.toList == (⟨#[45]⟩ : ByteArray).toList) = b := by rw [hm, ByteArray.toList_eq ⟨#[45]⟩]
 clear hm hb hT h0
 go_enter Tryz.func136, Tryz.ntmps136
 go_wp2
 go_ret
 exact ⟨rfl, rfl⟩
theorem minus_size {s : ByteArray} (h : minusB s = true) : 0 < s.size := by
 rcases Nat.eq_zero_or_pos s.size with h0 | h0
 · rw [minus_none s h0] at h; cases h
 exact h0
theorem behind_true {s : ByteArray} (h : minusB s = true) : behindB s = s.extract 1 s.size := by unfold behindB; rw [if_pos h]
theorem behind_false {s : ByteArray} (h : minusB s = false) : behindB s = s := by unfold behindB; rw [h]; rfl
theorem litecut_any (s : ByteArray) (hs : s.size ≤ 1099511627776) (w : World) :
 Calls Tryz.prog 105 #[.string s, .string ⟨#[45]⟩] w fun e w' => e = .returned (.tuple #[.string (behindB s), .bool (minusB s)]) ∧ w = w' := by
 have ch := fun w => has_any s hs w
 cases hm : minusB s with
 | false =>
  rw [hm] at ch
  rw [behind_false hm]
  have CH := hid ch
  clear ch
  go_enter Tryz.func105, Tryz.ntmps105
  go_wp2_with fail
  refine (CH.out _).mono ?_
  rintro e w1 ⟨rfl, rfl⟩
  go_wp2_with fail
  go_ret2
  exact ⟨rfl, rfl⟩
 | true =>
  rw [hm] at ch
  rw [behind_true hm]
  have h1 := minus_size hm
  have hsl := fun w => slice_from1 s h1 w
  have CH := hid ch
  clear ch
  go_enter Tryz.func105, Tryz.ntmps105
  go_wp2_with fail
  refine (CH.out _).mono ?_
  rintro e w1 ⟨rfl, rfl⟩
  go_wp2_with fail
  go_ret2
  exact ⟨rfl, rfl⟩
theorem litetrim_any (s : ByteArray) (hs : s.size ≤ 1099511627776) (w : World) :
 Calls Tryz.prog 116 #[.string s, .string ⟨#[45]⟩] w fun e w' => e = .returned (.string (behindB s)) ∧ w = w' := by
 have ch := fun w => has_any s hs w
 cases hm : minusB s with
 | false =>
  rw [hm] at ch
  rw [behind_false hm]
  have CH := hid ch
  clear ch
  go_enter Tryz.func116, Tryz.ntmps116
  go_wp2_with fail
  refine (CH.out _).mono ?_
  rintro e w1 ⟨rfl, rfl⟩
  go_wp2_with fail
  go_ret
  exact ⟨rfl, rfl⟩
 | true =>
  rw [hm] at ch
  rw [behind_true hm]
  have h1 := minus_size hm
  have hsl := fun w => slice_from1 s h1 w
  have CH := hid ch
  clear ch
  go_enter Tryz.func116, Tryz.ntmps116
  go_wp2_with fail
  refine (CH.out _).mono ?_
  rintro e w1 ⟨rfl, rfl⟩
  go_wp2_with fail
  go_ret
  exact ⟨rfl, rfl⟩
theorem cut_any (s : ByteArray) (hs : s.size ≤ 1099511627776) (w : World) :
 Calls Tryz.prog 71 #[.string s, .string ⟨#[45]⟩] w fun e w' => e = .returned (.tuple #[.string (behindB s), .bool (minusB s)]) ∧ w = w' := by
 have ch := fun w => litecut_any s hs w
 have CH := hid ch
 clear ch
 go_enter Tryz.func71, Tryz.ntmps71
 go_wp2_with fail
 refine (CH.out _).mono ?_
 rintro e w1 ⟨rfl, rfl⟩
 go_wp2_with fail
 go_ret2
 exact ⟨rfl, rfl⟩
theorem trimPrefix_any (s : ByteArray) (hs : s.size ≤ 1099511627776) (w : World) :
 Calls Tryz.prog 85 #[.string s, .string ⟨#[45]⟩] w fun e w' => e = .returned (.string (behindB s)) ∧ w = w' := by
 have ch := fun w => litetrim_any s hs w
 have CH := hid ch
 clear ch
 go_enter Tryz.func85, Tryz.ntmps85
 go_wp2_with fail
 refine (CH.out _).mono ?_
 rintro e w1 ⟨rfl, rfl⟩
 go_wp2_with fail
 go_ret
 exact ⟨rfl, rfl⟩
end Go.Proofs.YtcglcgphgahnpaaGreatDoor
namespace Go.Proofs.YtcglcgphgahnpaaGreatDoor
open Go Go.Proofs Go.RowKit Go.Lib
theorem validB_split (s : ByteArray) : validB s = ((!minusB s || decide (bytesL (behindB s) ≠ [48])) && plainB (bytesL (behindB s))) := by
 cases hm : minusB s with
 | false =>
  rw [behind_false hm]
  unfold validB validL
  unfold minusB at hm
  rw [decide_eq_false_iff_not] at hm
  split
  · rename_i r e; rw [e] at hm; simp at hm
  simp
 | true =>
  rw [behind_true hm]
  have h0 := minus_size hm
  have hc := bytesL_cons s h0
  unfold minusB at hm
  rw [decide_eq_true_eq, hc] at hm
  simp at hm
  unfold validB
  rw [hc, hm]
  show (decide _ && plainB _) = _
  simp
theorem behind_len (s : ByteArray) : (behindB s).size ≤ s.size := by
 unfold behindB
 split
 · rw [ByteArray.size_extract]; omega
 exact Nat.le_refl _
theorem plain_size {r : List Nat} (h : ¬ (0 < r.length ∧ r.length ≤ 200)) : plainB r = false := by
 unfold plainB
 rw [decide_eq_false h]; simp
theorem valid_outer (s : ByteArray) (h : ¬ (0 < (behindB s).size ∧ (behindB s).size ≤ 200)) : validB s = false := by
 rw [validB_split, plain_size (by rw [bytesL_length]; exact h), Bool.and_false]
theorem valid_badD (s : ByteArray) (k : Nat) (h : k < (behindB s).size) (hx : ((behindB s)[k]'h).toNat < 48 ∨ 57 < ((behindB s)[k]'h).toNat) : validB s = false := by
 rw [validB_split, plain_bad k h hx, Bool.and_false]
theorem valid_goodD (s : ByteArray) (h0 : 0 < (behindB s).size) (h2 : (behindB s).size ≤ 200) (h : ∀ j (hj : j < (behindB s).size), 48 ≤ ((behindB s)[j]'hj).toNat ∧ ((behindB s)[j]'hj).toNat < 58) :
 validB s = (decide (((behindB s)[0]'h0).toNat ≠ 48) || decide (s = ⟨#[48]⟩)) := by
 rw [validB_split, plain_good h, decide_eq_true (show 0 < (behindB s).size ∧ (behindB s).size ≤ 200 from ⟨h0, h2⟩), Bool.true_and]
 have hh := head48 (behindB s) h0
 rw [show decide ((bytesL (behindB s)).head? ≠ some 48) = decide (((behindB s)[0]'h0).toNat ≠ 48) from decide_eq_decide.2 hh]
 cases hm : minusB s with
 | false =>
  have e := behind_false hm
  rw [show decide (bytesL (behindB s) = [48]) = decide (s = ⟨#[48]⟩) from decide_eq_decide.2 (by rw [e]; exact bytesL_48 s)]
  simp [Bool.or_comm]
 | true =>
  have hs : s ≠ ⟨#[48]⟩ := by
   rintro rfl
   exact absurd hm (by decide +kernel)
  rw [decide_eq_false hs, Bool.or_false]
  have hx : bytesL (behindB s) = [48] → ((behindB s)[0]'h0).toNat = 48 := fun e => by
   by_cases h48 : ((behindB s)[0]'h0).toNat = 48
   · exact h48
   have := hh.2 h48; rw [e] at this; simp at this
  by_cases h1 : ((behindB s)[0]'h0).toNat = 48
  · by_cases h3 : bytesL (behindB s) = [48] <;> simp [h1, h3]
  have h3 : bytesL (behindB s) ≠ [48] := fun e => h1 (hx e)
  simp [h1, h3]
theorem valid_w (s : ByteArray) (hs : s.size ≤ 1099511627776) (w : World) :
 Calls Tryz.prog 108 #[.string s] w fun e w' => e = .returned (.bool (validB s)) ∧ w = w' := by
 have ct := fun w => trimPrefix_any s hs w
 have hout := valid_outer s
 have hbad := valid_badD s
 have hgood := valid_goodD s
 have hDs := behind_len s
 obtain ⟨D, hD⟩ : ∃ D, behindB s = D := ⟨_, rfl⟩
 rw [hD] at ct
 simp only [hD] at hout hbad hgood hDs
 obtain ⟨V, hV⟩ : ∃ V, validB s = V := ⟨_, rfl⟩
 rw [hV] at hout hbad hgood ⊢
 have CT := hid ct; have HO := hid hout; have HBAD := hid hbad; have HGOOD := hid hgood
 clear ct hout hbad hgood
 have hD40 : D.size ≤ 1099511627776 := by omega
 by_cases h0 : D.size = 0
 · have hv : V = false := HO.out (by omega)
   have hDe : D = ⟨#[]⟩ := by
    apply ByteArray.ext
    apply Array.eq_empty_of_size_eq_zero
    exact h0
   clear HO HBAD HGOOD
   clear hD hV
   subst hv hDe
   go_enter Tryz.func108, Tryz.ntmps108
   go_wp2_with fail
   refine (CT.out _).mono ?_
   rintro e w1 ⟨rfl, rfl⟩
   go_wp2_with fail
   go_ret
   exact ⟨rfl, rfl⟩
 have hne : (D.toList == (⟨#[]⟩ : ByteArray).toList) = false := by
  rw [str_eq_iff]
  exact decide_eq_false (fun h => h0 (by rw [h]; rfl))
 have hne2 : (D.toList == []) = false := by rw [← hne, ByteArray.toList_eq ⟨#[]⟩]
 have hne3 : D.toList ≠ [] := by simpa using hne2
 by_cases h2 : D.size ≤ 200
 · have h2i : ¬ (200 : Int) < (D.size : Int) := by omega
   go_enter Tryz.func108, Tryz.ntmps108
   go_wp2_with fail
   refine (CT.out _).mono ?_
   rintro e w1 ⟨rfl, rfl⟩
   go_wp2_with fail
   go_loop [16] (fun i => ∃ k : Nat, k ≤ D.size ∧ i = .int .i64 k ∧ Hid (∀ j (hj : j < D.size), j < k → 48 ≤ (D[j]'hj).toNat ∧ (D[j]'hj).toNat < 58)) (fun i => D.size - (RowKit.intOf i).toNat)
   case atStart => exact ⟨0, Nat.zero_le _, rfl, (fun j _ h => absurd h (by omega) : ∀ j (hj : j < D.size), j < 0 → 48 ≤ (D[j]'hj).toNat ∧ (D[j]'hj).toNat < 58)⟩
   obtain ⟨k, hk, rfl, hall⟩ := hrel
   by_cases hlt : k < D.size
   · have hk1 : (k : Int) < (D.size : Int) := by omega
     have hix := fun w => index_str D k hlt w
     have hbad := HBAD.out k hlt
     have hnx : 48 ≤ (D[k]'hlt).toNat ∧ (D[k]'hlt).toNat < 58 → ∀ j (hj : j < D.size), j < k + 1 → 48 ≤ (D[j]'hj).toNat ∧ (D[j]'hj).toNat < 58 := fun hx j hj hjk => by
      by_cases h : j = k
      · subst h; exact hx
      exact hall.out j hj (by omega)
     obtain ⟨x, hx⟩ : ∃ x, (D[k]'hlt).toNat = x := ⟨_, rfl⟩
     rw [hx] at hix hbad hnx
     have HB := hid hbad; have HNX := hid hnx
     clear hbad hnx hx
     by_cases h1 : x < 48
     · have a1 : (x : Int) < 48 := by omega
       have a2 : decide ((x : Int) < 48) = true := decide_eq_true a1
       have a3 : decide (x < 48) = true := decide_eq_true h1
       have HBF := hid (show false = V from (HB.out (.inl h1)).symm)
       go_wp2_with fail
       go_ret
       exact ⟨ret_bool HBF.out, rfl⟩
     have a1 : ¬ (x : Int) < 48 := by omega
     have a2 : decide ((x : Int) < 48) = false := decide_eq_false a1
     have a3 : decide (x < 48) = false := decide_eq_false h1
     by_cases h2' : 57 < x
     · have c1 : (57 : Int) < (x : Int) := by omega
       have c2 : decide ((57 : Int) < (x : Int)) = true := decide_eq_true c1
       have c3 : decide (57 < x) = true := decide_eq_true h2'
       have HBF := hid (show false = V from (HB.out (.inr h2')).symm)
       go_wp2_with fail
       go_ret
       exact ⟨ret_bool HBF.out, rfl⟩
     have c1 : ¬ (57 : Int) < (x : Int) := by omega
     have c2 : decide ((57 : Int) < (x : Int)) = false := decide_eq_false c1
     have c3 : decide (57 < x) = false := decide_eq_false h2'
     have HX := hid (show 48 ≤ x ∧ x < 58 by omega)
     go_wp2_with fail
     go_round
     case rel => exact ⟨k + 1, by omega, by go_num, HNX.out HX.out⟩
     case measure => simp [RowKit.intOf]; omega
   have hk1 : ¬ (k : Int) < (D.size : Int) := by omega
   have z0 : 0 < D.size := by omega
   have hg := HGOOD.out z0 h2 (fun j hj => hall.out j hj (by omega))
   have hix : ∀ w, (Instr.index 9 (.string D) (.int .i64 0)).run Tryz.prog w = .ok (.int .u8 (((D[0]'z0).toNat : Nat) : Int)) w := fun w => index_str D 0 z0 w
   obtain ⟨x, hx⟩ : ∃ x, (D[0]'z0).toNat = x := ⟨_, rfl⟩
   rw [hx] at hix hg
   have HG := hid hg
   clear hg hx hall HO HBAD HGOOD hV
   by_cases h1 : x = 48
   · subst h1
     have e1 : (s.toList == (⟨#[48]⟩ : ByteArray).toList) = decide (s = ⟨#[48]⟩) := str_eq_iff _ _
     obtain ⟨b, hb⟩ : ∃ b, decide (s = ⟨#[48]⟩) = b := ⟨_, rfl⟩
     rw [hb] at e1
     have e3 : (s.toList == [48]) = b := by rw [← list48]; exact e1
     have hbv : b = V := by rw [HG.out, hb]; rfl
     have HBV := hid hbv
     clear hbv hb HG
     go_wp2_with fail
     go_ret
     exact ⟨ret_bool HBV.out, rfl⟩
   have g1 : ((x : Int) != 48) = true := by rw [bne_iff_ne]; omega
   have g2 : ((x : Int) == 48) = false := by rw [beq_eq_false_iff_ne]; omega
   have hbv : true = V := by rw [HG.out, decide_eq_true h1]; rfl
   have HBV := hid hbv
   clear hbv HG
   go_wp2_with fail
   go_ret
   exact ⟨ret_bool HBV.out, rfl⟩
 have hv : V = false := HO.out (by omega)
 have h2i : (200 : Int) < (D.size : Int) := by omega
 clear HO HBAD HGOOD
 clear hD hV
 subst hv
 go_enter Tryz.func108, Tryz.ntmps108
 go_wp2_with fail
 refine (CT.out _).mono ?_
 rintro e w1 ⟨rfl, rfl⟩
 go_wp2_with fail
 go_ret
 exact ⟨rfl, rfl⟩
end Go.Proofs.YtcglcgphgahnpaaGreatDoor
