/-
  The contracts of slices.Clone at package seed's list, of Sample and of Shuffle.
-/
import Derived.Test.YtdolmahodhgfpaaDoorSeedX
import Derived.WalkSpells
namespace Go.Proofs.YtdolmahodhgfpaaDoor
open Go Go.Proofs Go.RowKit Go.Lib

theorem run_pushL (w w0 : World) (n : Nat) (ty : TypeId) (v : Value) (l p : List Nat) (hown : Own64 w n v l) (hb : Below n w0 w) (hn : n ≤ w.heap.size) (g o m c : Nat) (hm : p.length = m) (hc : NumsAt .i64 w g o p) (hl : l.length + m ≤ 17592186044416) :
    ∃ v' w', (Builtin.append_ #[53, 53] ty #[v, .slice (some ⟨g, o, none⟩) m c]).run Tryd.prog w = .ok v' w' ∧ Own64 w' n v' (l ++ p) ∧ Below n w0 w' ∧ w.grownBy w' v.ownBlock := by
  obtain ⟨i0, hi, hz0, hz1, hz2⟩ := info_parts info_i64
  subst hm
  obtain ⟨v', w', hrun, r1, r2, _⟩ := run_append_own (P := Tryd.prog) w n 53 ty 3 i0 (.int .i64 0) 1 8 Tryd.underlying53 hi hz0 hz1 hz2 rfl (by decide) v l.length (numVals .i64 l) hown
      ⟨g, o, none⟩ p.length c (numVals .i64 p) (by simp [numVals]) (by
        intro j u hj
        obtain ⟨h1, rfl⟩ := numVals_get hj
        rw [add_at]; exact hc j h1) numVals_one (by unfold maxLen; omega) (by omega) hn
  refine ⟨v', w', hrun, ?_, hb.grown r2 hn (own_ge hown), r2⟩
  unfold Own64
  rw [numVals_append, List.length_append]
  exact r1
theorem walk_pushL {ops : Array Oper} {o : Oper} {rest : List Oper} {a : Act} {w w0 : World} {Q : Exit → Act → World → Prop}
    (hgd : o.guard = none) (s x : Operand) (hop : o.op = Op.call { callee := Callee.builtin Builtin.append, args := #[s, x], argTypes := #[53, 53] })
    (n : Nat) (v : Value) (l p : List Nat) (hs : a.eval s = v) (hown : Own64 w n v l) (hb : Below n w0 w) (hn : n ≤ w.heap.size) (g off m c : Nat) (hx : a.eval x = .slice (some ⟨g, off, none⟩) m c) (hm : p.length = m) (hc : NumsAt .i64 w g off p) (hl : l.length + m ≤ 17592186044416)
    (hK : ∀ v' w', Own64 w' n v' (l ++ p) → Below n w0 w' → wpList Tryd.prog ops Q rest (a.put o.dst v') w') : wpList Tryd.prog ops Q (o :: rest) a w := by
  refine wpList_plain hgd fun K hK' => ?_
  obtain ⟨v', w', hrun, r1, r2, _⟩ := run_pushL w w0 n o.type v l p hown hb hn g off m c hm hc hl
  unfold Oper.wp
  simp [execOp, hop, resolve, invoke, builtin, hs, hx, hrun, Result.andThen]
  exact hK' _ _ (hK v' w' r1 r2)
def ClPost (w : World) (l : List Nat) (e : Ending) (w' : World) : Prop := ∃ ad c, e = .returned (.slice ad l.length c) ∧ l.length ≤ c ∧ IntsL w' ad (intsN l) ∧ Below w.heap.size w w'
theorem ListAt.nums {W : World} {g : Nat} {l : List Nat} (h : ListAt W g l) (k : Nat) : NumsAt .i64 W g 0 (l.take k) := by
  intro j hj
  have hj2 : j < l.length := by rw [List.length_take] at hj; omega
  rw [Nat.zero_add, (h j hj2).1]
  have e : (l.take k).getD j 0 = l[j] := by rw [List.getD_eq_getElem?_getD, List.getElem?_eq_getElem hj]; exact List.getElem_take
  rw [e]
set_option maxRecDepth 100000 in
set_option maxHeartbeats 4000000 in
theorem clone_u (g c k : Nat) (l : List Nat) (hk : k ≤ l.length) (hl : l.length ≤ 1000) (w : World) (hL : ListAt w g l) (hg : g < w.heap.size) :
    Calls Tryd.prog 40 #[.slice (some ⟨g, 0, none⟩) k c] w (ClPost w (l.take k)) := by
  have HT := Lib.hid (show (l.take k).length = k by rw [List.length_take]; omega)
  have HN := Lib.hid (hL.nums k)
  have he := fun W => Lib.run_eql_slice_nil (P := Tryd.prog) W 53 _ (some ⟨g, 0, none⟩) k c 0 0 list_elem6
  go_enter Tryd.func40, Tryd.ntmps40
  have HO := Lib.hid (show Own64 (w.alloc (.cells #[] 3)) w.heap.size (.slice (some ⟨w.heap.size, 0, none⟩) 0 0) [] from own64_new w w.heap.size [] (Nat.le_refl _) (by decide))
  have HB := Lib.hid (show Below w.heap.size w (w.alloc (.cells #[] 3)) from (Below.refl _ _).alloc (Nat.le_refl _) _)
  have HNA := Lib.hid (show NumsAt .i64 (w.alloc (.cells #[] 3)) g 0 (l.take k) from fun j hj => (HB.out.cell (p := ⟨g, 0 + j, none⟩) hg).trans (HN.out j hj))
  have HK := Lib.hid (show ([] : List Nat).length + k ≤ 17592186044416 by simp; omega)
  clear HN HB
  go_wp2_with (at_builtin; refine walk_pushL (w0 := w) rfl _ _ rfl w.heap.size _ [] (l.take k) rfl HO.out ((Below.refl _ _).alloc (Nat.le_refl _) _) (by simp) g 0 k c rfl HT.out HNA.out HK.out ?_; intro v3 W3 ho3 hb3)
  go_ret
  obtain ⟨ad, c3, hv, hc, hI⟩ := ho3.ints
  exact ⟨ad, c3, congrArg Ending.returned hv, hc, hI, hb3⟩

set_option maxRecDepth 100000 in
set_option maxHeartbeats 8000000 in
theorem sample_u (s : ByteArray) (hs : s.size ≤ maxLen) (n k : Int) (w : World) (hR : Ready w) : Calls Tryd.prog 22 #[.string s, .int .i64 n, .int .i64 k] w (ListPost6 w (sampO s n k)) := by
  have cn := fun W => isName_u s hs W
  by_cases hok : nmB s = true ∧ 0 ≤ k ∧ k ≤ n ∧ n ≤ 1000
  · obtain ⟨h1, h2, h3, h4⟩ := hok
    obtain ⟨m, rfl⟩ : ∃ m : Nat, n = (m : Int) := ⟨n.toNat, by omega⟩
    obtain ⟨j, rfl⟩ : ∃ j : Nat, k = (j : Int) := ⟨k.toNat, by omega⟩
    have hm : m ≤ 1000 := by omega
    have hj : j ≤ m := by omega
    have hnm : shufB s (m : Int) = true := by unfold shufB; rw [named_nm, h1, decide_eq_true (show 0 ≤ (m : Int) ∧ (m : Int) ≤ 1000 from ⟨by omega, by omega⟩)]; rfl
    have HO := Lib.hid (show sampO s (m : Int) (j : Int) = (shufF s (m - 1) (List.range m)).map (fun l => l.take j) by
      unfold sampO shufO
      rw [if_pos hnm, Int.toNat_natCast]
      cases shufF s (m - 1) (List.range m) with
      | none => rfl
      | some l => show (if _ then _ else _) = _; rw [if_pos ⟨by omega, by omega⟩, Int.toNat_natCast]; rfl)
    rw [h1] at cn
    have CN := Lib.hid cn
    have CA := Lib.hid (fun W => ascending_u m hm W)
    have HR := Lib.hid hR
    have k1 : ¬ ((j : Int) < 0) := by omega
    have k2 : ¬ ((m : Int) < (j : Int)) := by omega
    have k3 : ¬ (1000 < (m : Int)) := by omega
    have HJM := Lib.hid hj; have HM := Lib.hid hm
    clear hnm h1 h2 h3 h4 cn hR hm hj
    go_enter Tryd.func22, Tryd.ntmps22
    go_wp2_with fail
    refine (CN.out _).mono ?_
    rintro e z ⟨rfl, rfl⟩
    go_wp2_with fail
    refine (CA.out _).mono ?_
    rintro e z1 ⟨rfl, hL1, hb1, hs1⟩
    have CS := Lib.hid (shuffle_p s hs m m w.heap.size HM.out w z1 hL1 (Nat.le_refl _) hs1 hb1 HR.out)
    clear hL1 hb1 hs1 k1 k2 k3
    go_wp2_with fail
    refine CS.out.mono ?_
    clear CS
    rintro e z2 ⟨h1, hb2, hs2⟩
    cases ho : shufF s (m - 1) (List.range m) with
    | none =>
      rw [ho] at h1 HO
      obtain rfl := h1
      have HB := Lib.hid hb2
      clear hb2 hs2 ho
      go_wp2
      go_ret2
      exact ListPost6.no HO.out HB.out
    | some l =>
      rw [ho] at h1 HO
      obtain ⟨rfl, hl, hL⟩ := h1
      have hsl := fun W => slice_list6 (some ⟨w.heap.size, 0, none⟩) m m j HJM.out W
      have CC := Lib.hid (clone_u w.heap.size m j l (by rw [hl]; exact HJM.out) (by rw [hl]; exact HM.out) z2 hL hs2)
      have HLJ := Lib.hid (show (l.take j).length = j by rw [List.length_take, hl]; have := HJM.out; omega)
      have HB := Lib.hid hb2
      clear hb2 hs2 ho hL hl
      go_wp2_with fail
      refine CC.out.mono ?_
      rintro e z3 ⟨ad, c3, rfl, hc, hI, hb3⟩
      have HI := Lib.hid hI; have HC := Lib.hid hc; have HB3 := Lib.hid (below_up6 HB.out hb3)
      clear hI hc hb3 hsl
      go_wp2
      go_ret2
      exact ListPost6.yes (l := l.take j) HO.out List.length_take (by rw [← List.length_take]; exact HC.out) HI.out HB3.out
  · have HO := Lib.hid (show sampO s n k = none by
      unfold sampO
      cases hs2 : shufO s n with
      | none => rfl
      | some l =>
        obtain ⟨_, q1, q2⟩ := shufO_length hs2
        have hq : nmB s = true := by
          unfold shufO at hs2
          split at hs2
          · rename_i hb
            unfold shufB at hb
            rw [named_nm, Bool.and_eq_true, Bool.and_eq_true] at hb
            exact hb.1.1
          · cases hs2
        show (if _ then _ else _) = _
        rw [if_neg (fun h => hok ⟨hq, h.1, h.2, q2⟩)])
    cases hn : nmB s with
    | false =>
      rw [hn] at cn
      have CN := Lib.hid cn
      clear cn hn hok hR
      go_enter Tryd.func22, Tryd.ntmps22
      go_wp2_with fail
      refine (CN.out _).mono ?_
      rintro e z ⟨rfl, rfl⟩
      go_wp2
      go_ret2
      exact ListPost6.no HO.out (Below.refl _ _)
    | true =>
      rw [hn] at cn
      have CN := Lib.hid cn
      have hok2 : ¬ (0 ≤ k ∧ k ≤ n ∧ n ≤ 1000) := fun h => hok ⟨hn, h⟩
      clear cn hn hok hR
      by_cases h1 : k < 0
      · clear hok2
        go_enter Tryd.func22, Tryd.ntmps22
        go_wp2_with fail
        refine (CN.out _).mono ?_
        rintro e z ⟨rfl, rfl⟩
        go_wp2
        go_ret2
        exact ListPost6.no HO.out (Below.refl _ _)
      · by_cases h2 : n < k
        · clear hok2
          go_enter Tryd.func22, Tryd.ntmps22
          go_wp2_with fail
          refine (CN.out _).mono ?_
          rintro e z ⟨rfl, rfl⟩
          go_wp2
          go_ret2
          exact ListPost6.no HO.out (Below.refl _ _)
        · have h3 : 1000 < n := by omega
          clear hok2
          go_enter Tryd.func22, Tryd.ntmps22
          go_wp2_with fail
          refine (CN.out _).mono ?_
          rintro e z ⟨rfl, rfl⟩
          go_wp2
          go_ret2
          exact ListPost6.no HO.out (Below.refl _ _)

theorem samp_full (s : ByteArray) (n : Int) : sampO s n n = shufO s n := by
  unfold sampO
  cases h : shufO s n with
  | none => rfl
  | some l =>
    obtain ⟨h1, h2, h3⟩ := shufO_length h
    show (if _ then _ else _) = _
    rw [if_pos ⟨h2, Int.le_refl _⟩, List.take_of_length_le (by omega)]
set_option maxRecDepth 100000 in
set_option maxHeartbeats 4000000 in
theorem shuffle_u (s : ByteArray) (hs : s.size ≤ maxLen) (n : Int) (w : World) (hR : Ready w) : Calls Tryd.prog 20 #[.string s, .int .i64 n] w (ListPost6 w (shufO s n)) := by
  have c := sample_u s hs n n w hR
  rw [samp_full] at c
  have C := Lib.hid c
  clear c hR
  go_enter Tryd.func20, Tryd.ntmps20
  go_wp2_with fail
  refine C.out.mono ?_
  rintro e z ⟨h1, bz⟩
  generalize shufO s n = O at *
  have BZ := Lib.hid bz
  clear bz
  cases O with
  | none =>
    obtain rfl := h1
    go_wp2
    go_ret2
    exact ⟨rfl, BZ.out⟩
  | some l =>
    obtain ⟨ad, c, rfl, hc, hI⟩ := h1
    have HI := Lib.hid hI
    have HC := Lib.hid hc
    clear hI hc
    go_wp2
    go_ret2
    exact ⟨⟨ad, c, rfl, HC.out, HI.out⟩, BZ.out⟩
end Go.Proofs.YtdolmahodhgfpaaDoor
