/-
  The contract of package integer's naturalOf.
-/
import Derived.Test.YtildgpahacaglaaDoorNat2
import Derived.Test.YtildgpahacaglaaDoorDefs3
namespace Go.Proofs.YtildgpahacaglaaDoor
open Go Go.Proofs Go.RowKit Go.Lib

theorem run_pushN (w w0 : World) (n : Nat) (ty : TypeId) (v : Value) (l p : List Nat) (hown : OwnI w n v l) (hb : Below n w0 w) (hn : n ≤ w.heap.size) (g o m c : Nat) (hm : p.length = m) (hc : NumsAt .i64 w g o p) (hl : l.length + m ≤ 17592186044416) :
    ∃ v' w', (Builtin.append_ #[49, 49] ty #[v, .slice (some ⟨g, o, none⟩) m c]).run Tryd.prog w = .ok v' w' ∧ OwnI w' n v' (l ++ p) ∧ Below n w0 w' ∧ w.grownBy w' v.ownBlock := by
  obtain ⟨i0, hi, hz0, hz1, hz2⟩ := info_parts info_i64
  subst hm
  obtain ⟨v', w', hrun, r1, r2, _⟩ := run_append_own (P := Tryd.prog) w n 49 ty 3 i0 (.int .i64 0) 1 8 Tryd.underlying49 hi hz0 hz1 hz2 rfl (by decide) v l.length (numVals .i64 l) hown
      ⟨g, o, none⟩ p.length c (numVals .i64 p) (by simp [numVals]) (by
        intro j u hj
        obtain ⟨h1, rfl⟩ := numVals_get hj
        rw [add_at]; exact hc j h1) numVals_one (by unfold maxLen; omega) (by omega) hn
  refine ⟨v', w', hrun, ?_, hb.grown r2 hn (own_ge hown), r2⟩
  unfold OwnI
  rw [numVals_append, List.length_append]
  exact r1
theorem walk_pushN {ops : Array Oper} {o : Oper} {rest : List Oper} {a : Act} {w w0 : World} {Q : Exit → Act → World → Prop}
    (hgd : o.guard = none) (s x : Operand) (hop : o.op = Op.call { callee := Callee.builtin Builtin.append, args := #[s, x], argTypes := #[49, 49] })
    (n : Nat) (v : Value) (l p : List Nat) (hs : a.eval s = v) (hown : OwnI w n v l) (hb : Below n w0 w) (hn : n ≤ w.heap.size) (g off m c : Nat) (hx : a.eval x = .slice (some ⟨g, off, none⟩) m c) (hm : p.length = m) (hc : NumsAt .i64 w g off p) (hl : l.length + m ≤ 17592186044416)
    (hK : ∀ v' w', OwnI w' n v' (l ++ p) → Below n w0 w' → wpList Tryd.prog ops Q rest (a.put o.dst v') w') : wpList Tryd.prog ops Q (o :: rest) a w := by
  refine wpList_plain hgd fun K hK' => ?_
  obtain ⟨v', w', hrun, r1, r2, _⟩ := run_pushN w w0 n o.type v l p hown hb hn g off m c hm hc hl
  unfold Oper.wp
  simp [execOp, hop, resolve, invoke, builtin, hs, hx, hrun, Result.andThen]
  exact hK' _ _ (hK v' w' r1 r2)


theorem maxB (w : World) (ts : Array TypeId) (t : TypeId) (x y m : Int) (hm : m = max x y) : (Builtin.max_ ts t #[.int .i64 x, .int .i64 y]).run Tryd.prog w = .ok (.int .i64 m) w := by
  subst hm
  simp [Builtin.max_, Builtin.max2]
  omega
theorem ownI_made (W : World) (base k : Nat) (hb : base ≤ W.heap.size) (hk : k ≤ 1000000) : OwnI (W.alloc (.cells (numVals .i64 (List.replicate k 0)).toArray 3)) base (.slice (some ⟨W.heap.size, 0, none⟩) 0 k) [] :=
  ⟨by simp [numVals], .inr ⟨W.heap.size, k, (numVals .i64 (List.replicate k 0)).toArray, rfl, hb, heap_alloc_new W _, Nat.zero_le _, by unfold maxLen; omega, by simp [numVals], by simp [numVals]⟩⟩
theorem make_nat0 (n : Nat) (hn : n ≤ 1000000) (W : World) (z : Int) (hz : z = (n : Nat)) :
    (Instr.makeSlice 49 (.int .i64 0) (.int .i64 z)).run Tryd.prog W = .ok (.slice (some ⟨W.heap.size, 0, none⟩) 0 n) (W.alloc (.cells (numVals .i64 (List.replicate n 0)).toArray 3)) := by
  subst hz
  obtain ⟨i0, hi, hz0, hz1, hz2⟩ := info_parts info_i64
  have h := run_make (P := Tryd.prog) W 49 3 i0 (.int .i64 0) Tryd.underlying49 hi hz0 .i64 .i64 (0 : Int) (n : Int) (by omega) (by omega) (by rw [hz2]; omega) (by omega)
  rw [hz1, Int.toNat_natCast, made_zeros] at h
  exact h

set_option maxRecDepth 100000 in
set_option maxHeartbeats 8000000 in
theorem naturalOf_any (s : ByteArray) (hs : ∀ x ∈ bytesL s, 48 ≤ x ∧ x < 58) (hsz : s.size ≤ 1000) (w : World) :
    Calls Tryd.prog 49 #[.string s] w (NatPost w (valD (digT (bytesL s)))) := by
  have hD := digT_dig hs
  have hDl : (digT (bytesL s)).length = s.size := by rw [digT_length, bytesL_length]
  have hget : ∀ i (h : i < s.size), (s[i]'h).toNat = 48 + (digT (bytesL s)).getD (s.size - 1 - i) 0 := by
    intro i h
    have h1 : i < (bytesL s).length := by rw [bytesL_length]; exact h
    have h2 := digT_get (bytesL s) i h1
    rw [bytesL_length] at h2
    have h3 : (bytesL s).getD i 0 = (s[i]'h).toNat := by rw [List.getD_eq_getElem?_getD, List.getElem?_eq_getElem h1, ← bytesL_get s i h]; rfl
    rw [h3] at h2
    have h4 := hs (s[i]'h).toNat (by rw [← bytesL_get s i h]; exact List.getElem_mem _)
    omega
  obtain ⟨D, hDe⟩ : ∃ D, digT (bytesL s) = D := ⟨_, rfl⟩
  rw [hDe] at hD hDl hget
  rw [hDe]
  obtain ⟨m, hm⟩ : ∃ m, s.size = m := ⟨_, rfl⟩
  have hm1 : m ≤ 1000 := by omega
  have hss : (s.size : Int) = (m : Int) := by omega
  rw [hm] at hDl
  have hk4 : (m : Int) / 4 + 1 = ((m / 4 + 1 : Nat) : Int) := by omega
  obtain ⟨K, hK⟩ : ∃ K, m / 4 + 1 = K := ⟨_, rfl⟩
  rw [hK] at hk4
  have hmk := fun W => make_nat0 K (by omega) W ((m : Int) / 4 + 1) hk4
  have hown0 := ownI_made w w.heap.size K (Nat.le_refl _) (by omega)
  obtain ⟨W0, hW0⟩ : ∃ W0, w.alloc (.cells (numVals .i64 (List.replicate K 0)).toArray 3) = W0 := ⟨_, rfl⟩
  have hb0 : Below w.heap.size w W0 := by rw [← hW0]; exact (Below.refl _ _).alloc (Nat.le_refl _) _
  rw [hW0] at hown0
  have HD := Lib.hid hD; have HDL := Lib.hid hDl; have HGET := Lib.hid hget; have HM := Lib.hid hm; have HOWN0 := Lib.hid hown0; have HB0 := Lib.hid hb0; have HW0 := Lib.hid hW0
  clear hD hDl hget hm hown0 hb0 hW0 hs hDe hK hk4
  go_enter Tryd.func49, Tryd.ntmps49
  go_wp2_with fail
  rw [HW0.out]
  go_loopw [3, 4] (fun v e wr => ∃ (out : List Nat) (j : Nat), 4 * j ≤ m + 3 ∧ e = .int .i64 ((m : Int) - 4 * (j : Int)) ∧ Hid (ParInv D out j) ∧ Hid (OwnI wr w.heap.size v out) ∧ Hid (Below w.heap.size w wr)) (fun _ e _ => (RowKit.intOf e + 4).toNat)
  case atStart => exact ⟨[], 0, by omega, by simp, par_start D, HOWN0.out, HB0.out⟩
  case round =>
    obtain ⟨out, j, hj, rfl, hpar, hown, hbr⟩ := hrel
    by_cases hlt : 4 * j < m
    · have hlt2 : (0 : Int) < (m : Int) - 4 * (j : Int) := by omega
      obtain ⟨en, hen⟩ : ∃ en, m - 4 * j = en := ⟨_, rfl⟩
      have heni : (m : Int) - 4 * (j : Int) = (en : Int) := by omega
      rw [heni] at hlt2 ⊢
      obtain ⟨st, hst⟩ : ∃ st, en - 4 = st := ⟨_, rfl⟩
      have hmx := fun (w' : World) => maxB w' #[3, 3] 3 0 ((en : Int) - 4) (st : Int) (by omega)
      have hsten : st ≤ en := by omega
      have henm : en ≤ m := by omega
      have hpl := hpar.out.1
      have hstep := par_step (b := m - st) HD.out hpar.out (by rw [HDL.out]; omega) (by rw [HDL.out]; omega)
      have hsl := seg_lt HD.out (4 * j) (m - st)
      have hp4 : seg D (4 * j) (m - st) < 10000 := Nat.lt_of_lt_of_le hsl (Nat.pow_le_pow_right (n := 10) (by decide) (show m - st - 4 * j ≤ 4 by omega))
      have hsegm : m - en = 4 * j := by omega
      have hol : out.length + 1 ≤ 17592186044416 := by omega
      have HSTEP := Lib.hid hstep; have HP4 := Lib.hid hp4; have HSEG := Lib.hid hsegm
      clear hstep hsl hp4 hpar hsegm
      go_wp2_with fail
      go_loopw [5, 6] (fun vg vi wi => ∃ i : Nat, st ≤ i ∧ i ≤ en ∧ vi = .int .i64 (i : Int) ∧ vg = .int .i64 ((seg D (m - i) (m - st) : Nat) : Int) ∧ wr = wi) (fun _ vi _ => (((en : Int) - RowKit.intOf vi)).toNat)
      case atStart => exact ⟨st, Nat.le_refl _, hsten, rfl, by rw [seg_empty]; rfl, rfl⟩
      case round =>
        obtain ⟨i, hi1, hi2, rfl, rfl, rfl⟩ := hrel
        by_cases hil : i < en
        · have hil2 : (i : Int) < (en : Int) := by omega
          have his : i < s.size := by rw [HM.out]; omega
          have hch := HGET.out i his
          rw [HM.out] at hch
          have hsg := seg_step D (m - (i + 1)) (m - st) (by omega) (by rw [HDL.out]; omega)
          rw [show m - (i + 1) + 1 = m - i by omega] at hsg
          rw [show m - 1 - i = m - (i + 1) by omega] at hch
          have hd10 := getD_dig HD.out (m - (i + 1))
          have hgl : seg D (m - i) (m - st) < 1000 := Nat.lt_of_lt_of_le (seg_lt HD.out _ _) (Nat.pow_le_pow_right (n := 10) (by decide) (show m - st - (m - i) ≤ 3 by omega))
          obtain ⟨g, hg⟩ : ∃ g, seg D (m - i) (m - st) = g := ⟨_, rfl⟩
          obtain ⟨dd, hdd⟩ : ∃ g, D.getD (m - (i + 1)) 0 = g := ⟨_, rfl⟩
          obtain ⟨g2, hg2⟩ : ∃ g, seg D (m - (i + 1)) (m - st) = g := ⟨_, rfl⟩
          rw [hg] at hsg hgl ⊢
          rw [hdd] at hsg hch hd10
          rw [hg2] at hsg
          have hsgi : 10 * (g : Int) + (dd : Int) = (g2 : Int) := by omega
          have HG2 := Lib.hid hg2; have HSG := Lib.hid hsgi
          clear hsg hg hdd hg2 hsgi
          go_wp2_with fail
          go_roundw
          case rel => exact ⟨i + 1, by omega, by omega, by go_num, by rw [HG2.out]; exact congrArg (Value.int .i64) (by have := HSG.out; omega), trivial⟩
          case measure => simp [RowKit.intOf]; omega
        · obtain rfl : i = en := by omega
          have hil2 : ¬ (i : Int) < (i : Int) := by omega
          rw [HSEG.out]
          obtain ⟨g, hg⟩ : ∃ g, seg D (4 * j) (m - st) = g := ⟨_, rfl⟩
          have HG' := Lib.hid hg
          rw [hg]
          clear hg
          have hsize := hbr.out.size
          go_wp2_with (first | (at_builtin; refine walk_pushN (w0 := w) rfl _ _ rfl w.heap.size _ out [g] rfl (hown.out.alloc _) (hbr.out.alloc hsize _) (Nat.le_trans hsize (by simp)) wr.heap.size 0 1 1 rfl rfl (new_num1 .i64 wr _ g rfl _) hol ?_; intro v3 W3 ho3 hb3))
          go_roundw
          case rel => exact ⟨out ++ [g], j + 1, by omega, by go_num, by rw [← HG'.out]; exact HSTEP.out, ho3, hb3⟩
          case measure => simp [RowKit.intOf]; omega
    · have hlt2 : ¬ (0 : Int) < (m : Int) - 4 * (j : Int) := by omega
      have hpl := hpar.out.1
      have hfin := par_end hpar.out (by rw [HDL.out]; omega)
      have hog := hpar.out.2.1
      obtain ⟨ad, cap, rfl, hh, _⟩ := own_hold hown.out j hpl (by omega)
      have ct := trimmed_any3 out hog ad cap wr hh j hpl
      have htk := trimG_take j hpl hog
      rw [hfin] at ct htk
      have hh2 := hh.take (grps (valD D)).length
      rw [← htk] at hh2
      have CT := Lib.hid ct; have HH2 := Lib.hid hh2
      clear ct htk hh hh2 hfin hog hpar hpl hown
      go_wp2_with fail
      refine CT.out.mono ?_
      rintro e w9 ⟨rfl, rfl⟩
      go_wp2
      go_ret
      exact ⟨ad, cap, _, rfl, rfl, HH2.out, hbr.out⟩
end Go.Proofs.YtildgpahacaglaaDoor
