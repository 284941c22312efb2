/-
  The contracts of the reference's trim and order.
  The contract of the reference's plus.
  The contract of the reference's minus.
  The contract of the reference's checked.
  The contract of the reference's digits.
  The contract of the reference's Valid.
  The contract of the reference's sum.
  The contracts of the reference's Add, Sub and Compare.
-/
import Derived.Test.YtlcibnmcannapaaGreatDoorGplain
import Derived.Test.YtlcibnmcannapaaGreatDoorGdefs
namespace Go.Proofs.YtlcibnmcannapaaGreatDoor
open Go Go.Proofs Go.RowKit Go.Lib

set_option maxRecDepth 100000 in
set_option maxHeartbeats 2000000 in
theorem order_any (m n : Nat) (ad1 ad2 : Option Addr) (c1 c2 n1 n2 : Nat) (w : World) (h1 : HoldI w ad1 c1 (digs m)) (h2 : HoldI w ad2 c2 (digs n)) (e1 : (digs m).length = n1) (e2 : (digs n).length = n2) :
    Calls Tryz.prog 84 #[.slice ad1 n1 c1, .slice ad2 n2 c2] w fun e w' => e = .returned (.int .i64 (cmpI m n)) ∧ ∃ k, w' = w.drewN k := by
  have ha := digs_lt m
  have hb := digs_lt n
  have va := valD_digs m
  have vb := valD_digs n
  have l1 := fun h => len_lt (m := m) (n := n) h
  have l2 := fun h => len_lt (m := n) (n := m) h
  obtain ⟨a, hae⟩ : ∃ a, digs m = a := ⟨_, rfl⟩
  obtain ⟨b, hbe⟩ : ∃ b, digs n = b := ⟨_, rfl⟩
  rw [hae] at ha va h1 e1 l1 l2
  rw [hbe] at hb vb h2 e2 l1 l2
  rw [e1, e2] at l1 l2
  have hlen1 : n1 ≤ 1099511627776 := by have := h1.2.1; omega
  have hlen2 : n2 ≤ 1099511627776 := by have := h2.2.1; omega
  obtain ⟨R, hR⟩ : ∃ R, cmpI m n = R := ⟨_, rfl⟩
  rw [hR]
  have hlt : m < n → R = -1 := fun h => by rw [← hR]; unfold cmpI; rw [if_pos h]
  have hgt : n < m → R = 1 := fun h => by rw [← hR]; unfold cmpI; rw [if_neg (by omega), if_pos h]
  have heq : m = n → R = 0 := fun h => by rw [← hR]; unfold cmpI; rw [if_neg (by omega), if_neg (by omega)]
  have HA := Lib.hid ha; have HB := Lib.hid hb; have VA := Lib.hid va; have VB := Lib.hid vb; have H1 := Lib.hid h1; have H2 := Lib.hid h2; have E1 := Lib.hid e1; have E2 := Lib.hid e2; have LT := Lib.hid hlt; have GT := Lib.hid hgt; have EQ := Lib.hid heq
  clear ha hb va vb h1 h2 e1 e2 hlt hgt heq hR hae hbe
  by_cases hnn : n1 = n2
  · subst hnn
    have hz : ((n1 : Int) != (n1 : Int)) = false := by simp
    clear l1 l2
    go_enter Tryz.func84, Tryz.ntmps84
    go_wp2_with fail
    go_loopw [5] (fun i wr => ∃ k : Nat, k ≤ n1 ∧ i = .int .i64 ((k : Int) - 1) ∧ Hid (a.drop k = b.drop k) ∧ ∃ q, wr = w.drewN q) (fun i _ => (RowKit.intOf i + 1).toNat)
    case atStart => exact ⟨n1, Nat.le_refl _, rfl, (by rw [List.drop_of_length_le (by rw [E1.out]; omega), List.drop_of_length_le (by rw [E2.out]; omega)] : a.drop n1 = b.drop n1), 0, rfl⟩
    case round =>
      obtain ⟨k, hk, rfl, hdr, q, rfl⟩ := hrel
      by_cases hk0 : k = 0
      · subst hk0
        have hneg : ¬ (0 : Int) ≤ ((0 : Nat) : Int) - 1 := by omega
        have hmn : R = 0 := EQ.out (by rw [← VA.out, ← VB.out]; have := hdr.out; rw [List.drop_zero, List.drop_zero] at this; rw [this])
        have HMN := Lib.hid hmn
        clear hmn
        go_wp2_with fail
        go_ret
        exact ⟨ret_w HMN.out.symm, q, rfl⟩
      · obtain ⟨j, rfl⟩ : ∃ j, k = j + 1 := ⟨k - 1, by omega⟩
        have hj : (((j + 1 : Nat) : Int) - 1) = (j : Int) := by omega
        rw [hj]
        have hj0 : (0 : Int) ≤ (j : Int) := by omega
        have hj1 : (j : Int) < (n1 : Int) := by omega
        have ja : j < a.length := by rw [E1.out]; omega
        have jb : j < b.length := by rw [E2.out]; omega
        obtain ⟨g1, o1, rfl, hg1, hs1⟩ := H1.out.at (by omega)
        obtain ⟨g2, o2, rfl, hg2, hs2⟩ := H2.out.at (by omega)
        have c1' := hs1 j ja
        have c2' := hs2 j jb
        have tlt := top_lt HA.out j ja jb hdr.out
        have tgt := top_lt HB.out j jb ja hdr.out.symm
        have hnx := drop_next j ja jb hdr.out
        rw [VA.out, VB.out] at tlt tgt
        obtain ⟨x, hx⟩ : ∃ x, a.getD j 0 = x := ⟨_, rfl⟩
        obtain ⟨y, hy⟩ : ∃ y, b.getD j 0 = y := ⟨_, rfl⟩
        rw [hx] at c1' tlt tgt hnx
        rw [hy] at c2' tlt tgt hnx
        have j1 := fun w => atI g1 o1 n1 c1 j (j : Int) rfl (by omega) w
        have j2 := fun w => atI g2 o2 n1 c2 j (j : Int) rfl (by omega) w
        have TL := Lib.hid tlt; have TG := Lib.hid tgt; have NX := Lib.hid hnx
        clear tlt tgt hnx hx hy hs1 hs2 ja jb hk0
        by_cases hxy : x = y
        · have e1 : ((x : Int) != (y : Int)) = false := by rw [bne_eq_false_iff_eq]; omega
          have HXY := Lib.hid hxy
          clear hxy
          go_wp2_with fail
          go_quiet (fail)
          go_wp2
          go_roundw
          case rel => exact ⟨j, by omega, by go_num, NX.out HXY.out, q + nq, rfl⟩
          case measure => simp [RowKit.intOf]
        · have e1 : ((x : Int) != (y : Int)) = true := by rw [bne_iff_ne]; omega
          by_cases hxl : x < y
          · have hxl2 : (x : Int) < (y : Int) := by omega
            have hr := LT.out (TL.out hxl)
            have HRR := Lib.hid hr
            clear hr hxy
            go_wp2_with fail
            go_quiet (fail)
            go_wp2_with fail
            go_quiet (fail)
            go_wp2
            go_ret
            exact ⟨ret_w HRR.out.symm, dr2 _ _ _ _⟩
          · have hxl2 : ¬ (x : Int) < (y : Int) := by omega
            have hr := GT.out (TG.out (by omega))
            have HRR := Lib.hid hr
            clear hr hxy
            go_wp2_with fail
            go_quiet (fail)
            go_wp2_with fail
            go_quiet (fail)
            go_wp2
            go_ret
            exact ⟨ret_w HRR.out.symm, dr2 _ _ _ _⟩
  · have hz : ((n1 : Int) != (n2 : Int)) = true := by rw [bne_iff_ne]; omega
    by_cases hl : n1 < n2
    · have hl2 : (n1 : Int) < (n2 : Int) := by omega
      have hr := LT.out (l1 hl)
      have HRR := Lib.hid hr
      clear hr l1 l2
      go_enter Tryz.func84, Tryz.ntmps84
      go_wp2_with fail
      go_ret
      exact ⟨ret_w HRR.out.symm, 0, rfl⟩
    · have hl2 : ¬ (n1 : Int) < (n2 : Int) := by omega
      have hr := GT.out (l2 (by omega))
      have HRR := Lib.hid hr
      clear hr l1 l2
      go_enter Tryz.func84, Tryz.ntmps84
      go_wp2_with fail
      go_ret
      exact ⟨ret_w HRR.out.symm, 0, rfl⟩
end Go.Proofs.YtlcibnmcannapaaGreatDoor

namespace Go.Proofs.YtlcibnmcannapaaGreatDoor
open Go Go.Proofs Go.RowKit Go.Lib

set_option maxRecDepth 100000 in
set_option maxHeartbeats 8000000 in
theorem plus_any (m n : Nat) (ad1 ad2 : Option Addr) (c1 c2 n1 n2 : Nat) (w : World) (h1 : HoldI w ad1 c1 (digs m)) (h2 : HoldI w ad2 c2 (digs n)) (e1 : (digs m).length = n1) (e2 : (digs n).length = n2) (hn1 : n1 ≤ 1000) (hn2 : n2 ≤ 1000) :
    Calls Tryz.prog 82 #[.slice ad1 n1 c1, .slice ad2 n2 c2] w (IntsPost w (digs (m + n))) := by
  have ha := digs_lt m
  have hb := digs_lt n
  have hca := digs_canon m
  have hcb := digs_canon n
  have va := valD_digs m
  have vb := valD_digs n
  have ba := valD_lt ha
  have bb := valD_lt hb
  obtain ⟨a, hae⟩ : ∃ a, digs m = a := ⟨_, rfl⟩
  obtain ⟨b, hbe⟩ : ∃ b, digs n = b := ⟨_, rfl⟩
  rw [hae] at ha va h1 e1 hca ba
  rw [hbe] at hb vb h2 e2 hcb bb
  rw [e1] at ba
  rw [e2] at bb
  obtain ⟨K, hK⟩ : ∃ K, K = 1000 := ⟨_, rfl⟩
  have ba' : valD a < 10 ^ K := Nat.lt_of_lt_of_le ba (Nat.pow_le_pow_right (by decide) (by omega))
  have bb' : valD b < 10 ^ K := Nat.lt_of_lt_of_le bb (Nat.pow_le_pow_right (by decide) (by omega))
  obtain ⟨S, hS⟩ : ∃ S, m + n = S := ⟨_, rfl⟩
  have hSl : valD a + valD b = S := by rw [va, vb, hS]
  rw [hS]
  have HA := Lib.hid ha; have HB := Lib.hid hb; have H1 := Lib.hid h1; have H2 := Lib.hid h2; have E1 := Lib.hid e1; have E2 := Lib.hid e2; have CA := Lib.hid hca; have CB := Lib.hid hcb; have BA := Lib.hid ba'; have BB := Lib.hid bb'; have HS := Lib.hid hSl
  clear ha hb va vb h1 h2 e1 e2 hca hcb hae hbe ba bb ba' bb' hS hSl
  go_enter Tryz.func82, Tryz.ntmps82
  go_wp2_with fail
  go_loopw [5, 6, 7] (fun v c i wr => ∃ (out : List Nat) (k q : Nat), i = .int .i64 k ∧ c = .int .i64 q ∧ Hid (PlusInv a b out q k) ∧ Hid (OwnI wr w.heap.size v out) ∧ Hid (Below w.heap.size w wr)) (fun _ _ i _ => 2000 - (RowKit.intOf i).toNat)
  case atStart => exact ⟨[], 0, 0, rfl, rfl, plus_start a b, OwnI.nil _ _, Below.refl _ _⟩
  case round =>
    obtain ⟨out, k, q, rfl, rfl, hinv, hown, hbr⟩ := hrel
    have hkb := plus_bound hinv.out BA.out BB.out
    have hq1 := hinv.out.2.2.1
    by_cases hA : k < n1
    · have hA2 : (k : Int) < (n1 : Int) := by omega
      by_cases hB : k < n2
      · have hB2 : (k : Int) < (n2 : Int) := by omega
        have hbw : Below w.heap.size w wr := hbr.out
        have ka : k < a.length := by rw [E1.out]; exact hA
        obtain ⟨g1, o1, rfl, hg1, hs1⟩ := H1.out.at (by omega)
        have ca := (hs1.below hbw hg1) k ka
        have xl := getD_dig HA.out k
        have j1 := fun w => atI g1 o1 n1 c1 k (k : Int) rfl (by omega) w
        have kb : k < b.length := by rw [E2.out]; exact hB
        obtain ⟨g2, o2, rfl, hg2, hs2⟩ := H2.out.at (by omega)
        have cb := (hs2.below hbw hg2) k kb
        have yl := getD_dig HB.out k
        have j2 := fun w => atI g2 o2 n2 c2 k (k : Int) rfl (by omega) w
        have hst := plus_step HA.out HB.out CA.out CB.out hinv.out (.inl (by rw [E1.out]; exact hA))
        obtain ⟨x, hx⟩ : ∃ x, a.getD k 0 = x := ⟨_, rfl⟩
        rw [hx] at ca xl hst
        obtain ⟨y, hy⟩ : ∃ y, b.getD k 0 = y := ⟨_, rfl⟩
        rw [hy] at cb yl hst
        obtain ⟨d, hd⟩ : ∃ d, (q + x + y) % 10 = d := ⟨_, rfl⟩
        obtain ⟨c', hc'⟩ : ∃ d, (q + x + y) / 10 = d := ⟨_, rfl⟩
        rw [hd, hc'] at hst
        have hdi : ((q : Int) + (x : Int) + (y : Int)) % 10 = (d : Int) := by omega
        have hci : ((q : Int) + (x : Int) + (y : Int)) / 10 = (c' : Int) := by omega
        have hol : out.length + 1 ≤ 17592186044416 := by have := hinv.out.1; omega
        have hsize := hbr.out.size
        have HST := Lib.hid hst; have HDI := Lib.hid hdi; have HCI := Lib.hid hci
        clear hst hdi hci hd hc' hbw hinv hx ka hs1 hy kb hs2
        go_wp2_with (first | (at_builtin; refine walk_pushI (w0 := w) rfl _ _ rfl w.heap.size _ out [d] rfl (hown.out.alloc _) (hbr.out.alloc hsize _) (Nat.le_trans hsize (by simp)) wr.heap.size 0 1 1 rfl rfl (new_num1 .i64 wr _ d HDI.out _) hol ?_; intro v3 W3 ho3 hb3))
        go_roundw
        case rel => exact ⟨out ++ [d], k + 1, c', by go_num, congrArg (Value.int .i64) HCI.out, HST.out, ho3, hb3⟩
        case measure => simp [RowKit.intOf]; omega
      · have hB2 : ¬ (k : Int) < (n2 : Int) := by omega
        have hbw : Below w.heap.size w wr := hbr.out
        have ka : k < a.length := by rw [E1.out]; exact hA
        obtain ⟨g1, o1, rfl, hg1, hs1⟩ := H1.out.at (by omega)
        have ca := (hs1.below hbw hg1) k ka
        have xl := getD_dig HA.out k
        have j1 := fun w => atI g1 o1 n1 c1 k (k : Int) rfl (by omega) w
        have yz : b.getD k 0 = 0 := by rw [List.getD_eq_getElem?_getD, List.getElem?_eq_none (by rw [E2.out]; omega)]; rfl
        have hst := plus_step HA.out HB.out CA.out CB.out hinv.out (.inl (by rw [E1.out]; exact hA))
        obtain ⟨x, hx⟩ : ∃ x, a.getD k 0 = x := ⟨_, rfl⟩
        rw [hx] at ca xl hst
        rw [yz, Nat.add_zero] at hst
        obtain ⟨d, hd⟩ : ∃ d, (q + x) % 10 = d := ⟨_, rfl⟩
        obtain ⟨c', hc'⟩ : ∃ d, (q + x) / 10 = d := ⟨_, rfl⟩
        rw [hd, hc'] at hst
        have hdi : ((q : Int) + (x : Int)) % 10 = (d : Int) := by omega
        have hci : ((q : Int) + (x : Int)) / 10 = (c' : Int) := by omega
        have hol : out.length + 1 ≤ 17592186044416 := by have := hinv.out.1; omega
        have hsize := hbr.out.size
        have HST := Lib.hid hst; have HDI := Lib.hid hdi; have HCI := Lib.hid hci
        clear hst hdi hci hd hc' hbw hinv hx ka hs1 yz
        go_wp2_with (first | (at_builtin; refine walk_pushI (w0 := w) rfl _ _ rfl w.heap.size _ out [d] rfl (hown.out.alloc _) (hbr.out.alloc hsize _) (Nat.le_trans hsize (by simp)) wr.heap.size 0 1 1 rfl rfl (new_num1 .i64 wr _ d HDI.out _) hol ?_; intro v3 W3 ho3 hb3))
        go_roundw
        case rel => exact ⟨out ++ [d], k + 1, c', by go_num, congrArg (Value.int .i64) HCI.out, HST.out, ho3, hb3⟩
        case measure => simp [RowKit.intOf]; omega
    · have hA2 : ¬ (k : Int) < (n1 : Int) := by omega
      by_cases hB : k < n2
      · have hB2 : (k : Int) < (n2 : Int) := by omega
        have hbw : Below w.heap.size w wr := hbr.out
        have xz : a.getD k 0 = 0 := by rw [List.getD_eq_getElem?_getD, List.getElem?_eq_none (by rw [E1.out]; omega)]; rfl
        have kb : k < b.length := by rw [E2.out]; exact hB
        obtain ⟨g2, o2, rfl, hg2, hs2⟩ := H2.out.at (by omega)
        have cb := (hs2.below hbw hg2) k kb
        have yl := getD_dig HB.out k
        have j2 := fun w => atI g2 o2 n2 c2 k (k : Int) rfl (by omega) w
        have hst := plus_step HA.out HB.out CA.out CB.out hinv.out (.inr (.inl (by rw [E2.out]; exact hB)))
        rw [xz, Nat.add_zero] at hst
        obtain ⟨y, hy⟩ : ∃ y, b.getD k 0 = y := ⟨_, rfl⟩
        rw [hy] at cb yl hst
        obtain ⟨d, hd⟩ : ∃ d, (q + y) % 10 = d := ⟨_, rfl⟩
        obtain ⟨c', hc'⟩ : ∃ d, (q + y) / 10 = d := ⟨_, rfl⟩
        rw [hd, hc'] at hst
        have hdi : ((q : Int) + (y : Int)) % 10 = (d : Int) := by omega
        have hci : ((q : Int) + (y : Int)) / 10 = (c' : Int) := by omega
        have hol : out.length + 1 ≤ 17592186044416 := by have := hinv.out.1; omega
        have hsize := hbr.out.size
        have HST := Lib.hid hst; have HDI := Lib.hid hdi; have HCI := Lib.hid hci
        clear hst hdi hci hd hc' hbw hinv xz hy kb hs2
        go_wp2_with (first | (at_builtin; refine walk_pushI (w0 := w) rfl _ _ rfl w.heap.size _ out [d] rfl (hown.out.alloc _) (hbr.out.alloc hsize _) (Nat.le_trans hsize (by simp)) wr.heap.size 0 1 1 rfl rfl (new_num1 .i64 wr _ d HDI.out _) hol ?_; intro v3 W3 ho3 hb3))
        go_roundw
        case rel => exact ⟨out ++ [d], k + 1, c', by go_num, congrArg (Value.int .i64) HCI.out, HST.out, ho3, hb3⟩
        case measure => simp [RowKit.intOf]; omega
      · have hB2 : ¬ (k : Int) < (n2 : Int) := by omega
        by_cases hq : 0 < q
        · have hq2 : (0 : Int) < (q : Int) := by omega
          have hbw : Below w.heap.size w wr := hbr.out
          have xz : a.getD k 0 = 0 := by rw [List.getD_eq_getElem?_getD, List.getElem?_eq_none (by rw [E1.out]; omega)]; rfl
          have yz : b.getD k 0 = 0 := by rw [List.getD_eq_getElem?_getD, List.getElem?_eq_none (by rw [E2.out]; omega)]; rfl
          have hst := plus_step HA.out HB.out CA.out CB.out hinv.out (.inr (.inr hq))
          rw [xz, Nat.add_zero] at hst
          rw [yz, Nat.add_zero] at hst
          obtain ⟨d, hd⟩ : ∃ d, q % 10 = d := ⟨_, rfl⟩
          obtain ⟨c', hc'⟩ : ∃ d, q / 10 = d := ⟨_, rfl⟩
          rw [hd, hc'] at hst
          have hdi : (q : Int) % 10 = (d : Int) := by omega
          have hci : (q : Int) / 10 = (c' : Int) := by omega
          have hol : out.length + 1 ≤ 17592186044416 := by have := hinv.out.1; omega
          have hsize := hbr.out.size
          have HST := Lib.hid hst; have HDI := Lib.hid hdi; have HCI := Lib.hid hci
          clear hst hdi hci hd hc' hbw hinv xz yz
          go_wp2_with (first | (at_builtin; refine walk_pushI (w0 := w) rfl _ _ rfl w.heap.size _ out [d] rfl (hown.out.alloc _) (hbr.out.alloc hsize _) (Nat.le_trans hsize (by simp)) wr.heap.size 0 1 1 rfl rfl (new_num1 .i64 wr _ d HDI.out _) hol ?_; intro v3 W3 ho3 hb3))
          go_roundw
          case rel => exact ⟨out ++ [d], k + 1, c', by go_num, congrArg (Value.int .i64) HCI.out, HST.out, ho3, hb3⟩
          case measure => simp [RowKit.intOf]; omega
        · have hq0 : q = 0 := by omega
          subst hq0
          have hfin := plus_end hinv.out (by rw [E1.out]; omega) (by rw [E2.out]; omega)
          rw [HS.out] at hfin
          have hol : out.length ≤ 1099511627776 := by have := hinv.out.1; omega
          subst hfin
          have HO := Lib.hid hol
          clear hinv hol
          go_wp2_with fail
          go_ret
          exact ints_of_own hown.out hbr.out HO.out
end Go.Proofs.YtlcibnmcannapaaGreatDoor

namespace Go.Proofs.YtlcibnmcannapaaGreatDoor
open Go Go.Proofs Go.RowKit Go.Lib

set_option maxRecDepth 100000 in
set_option maxHeartbeats 8000000 in
theorem minus_any (m n : Nat) (hmn : n ≤ m) (ad1 ad2 : Option Addr) (c1 c2 n1 n2 : Nat) (w : World) (h1 : HoldI w ad1 c1 (digs m)) (h2 : HoldI w ad2 c2 (digs n)) (e1 : (digs m).length = n1) (e2 : (digs n).length = n2) :
    Calls Tryz.prog 83 #[.slice ad1 n1 c1, .slice ad2 n2 c2] w (IntsPost w (digs (m - n))) := by
  have ha := digs_lt m
  have hb := digs_lt n
  have va := valD_digs m
  have vb := valD_digs n
  have hnn : n2 ≤ n1 := by rw [← e1, ← e2]; exact digs_length_mono hmn
  obtain ⟨a, hae⟩ : ∃ a, digs m = a := ⟨_, rfl⟩
  obtain ⟨b, hbe⟩ : ∃ b, digs n = b := ⟨_, rfl⟩
  rw [hae] at ha va h1 e1
  rw [hbe] at hb vb h2 e2
  have hle : valD b ≤ valD a := by rw [va, vb]; exact hmn
  have hn1 : n1 ≤ 1099511627776 := by have := h1.2.1; omega
  obtain ⟨S, hS⟩ : ∃ S, m - n = S := ⟨_, rfl⟩
  have hSl : valD a - valD b = S := by rw [va, vb, hS]
  rw [hS]
  have HA := Lib.hid ha; have HB := Lib.hid hb; have H1 := Lib.hid h1; have H2 := Lib.hid h2; have E1 := Lib.hid e1; have E2 := Lib.hid e2; have HLE := Lib.hid hle; have HS := Lib.hid hSl
  clear ha hb va vb h1 h2 e1 e2 hae hbe hS hSl hle hmn
  go_enter Tryz.func83, Tryz.ntmps83
  go_wp2_with fail
  go_loopw [5, 6, 7] (fun v c i wr => ∃ (out : List Nat) (k q : Nat), k ≤ n1 ∧ i = .int .i64 k ∧ c = .int .i64 q ∧ Hid (MinusInv a b out q k) ∧ Hid (OwnI wr w.heap.size v out) ∧ Hid (Below w.heap.size w wr)) (fun _ _ i _ => n1 - (RowKit.intOf i).toNat)
  case atStart => exact ⟨[], 0, 0, Nat.zero_le _, rfl, rfl, minus_start a b, OwnI.nil _ _, Below.refl _ _⟩
  case round =>
    obtain ⟨out, k, q, hk, rfl, rfl, hinv, hown, hbr⟩ := hrel
    have hq1 := hinv.out.2.2.1
    by_cases hA : k < n1
    · have hA2 : (k : Int) < (n1 : Int) := by omega
      have hbw : Below w.heap.size w wr := hbr.out
      have ka : k < a.length := by rw [E1.out]; exact hA
      obtain ⟨g1, o1, rfl, hg1, hs1⟩ := H1.out.at (by omega)
      have ca := (hs1.below hbw hg1) k ka
      have xl := getD_dig HA.out k
      have j1 := fun w => atI g1 o1 n1 c1 k (k : Int) rfl (by omega) w
      have hst := fun d c' hs => minus_step HA.out HB.out hinv.out d c' hs
      have hol : out.length + 1 ≤ 17592186044416 := by have := hinv.out.1; omega
      have hsize := hbr.out.size
      obtain ⟨x, hx⟩ : ∃ x, a.getD k 0 = x := ⟨_, rfl⟩
      rw [hx] at ca xl hst
      by_cases hB : k < n2
      · have hB2 : (k : Int) < (n2 : Int) := by omega
        have kb : k < b.length := by rw [E2.out]; exact hB
        obtain ⟨g2, o2, rfl, hg2, hs2⟩ := H2.out.at (by omega)
        have cb := (hs2.below hbw hg2) k kb
        have yl := getD_dig HB.out k
        have j2 := fun w => atI g2 o2 n2 c2 k (k : Int) rfl (by omega) w
        obtain ⟨y, hy⟩ : ∃ y, b.getD k 0 = y := ⟨_, rfl⟩
        rw [hy] at cb yl hst
        by_cases hn : x < q + y
        · obtain ⟨d, hd⟩ : ∃ d, x + 10 - q - y = d := ⟨_, rfl⟩
          have hst2 := hst d 1 (.inr ⟨by omega, hd.symm, rfl⟩)
          have hng : (x : Int) - (q : Int) - (y : Int) < 0 := by omega
          have hdi : (x : Int) - (q : Int) - (y : Int) + 10 = (d : Int) := by omega
          have HST := Lib.hid hst2; have HDI := Lib.hid hdi
          clear hst hst2 hdi hd hbw hinv hx ka hs1 hy kb hs2
          go_wp2_with (first | (at_builtin; refine walk_pushI (w0 := w) rfl _ _ rfl w.heap.size _ out [d] rfl (hown.out.alloc _) (hbr.out.alloc hsize _) (Nat.le_trans hsize (by simp)) wr.heap.size 0 1 1 rfl rfl (new_num1 .i64 wr _ d HDI.out _) hol ?_; intro v3 W3 ho3 hb3))
          go_roundw
          case rel => exact ⟨out ++ [d], k + 1, 1, by omega, by go_num, rfl, HST.out, ho3, hb3⟩
          case measure => simp [RowKit.intOf]; omega
        · obtain ⟨d, hd⟩ : ∃ d, x - q - y = d := ⟨_, rfl⟩
          have hst2 := hst d 0 (.inl ⟨by omega, hd.symm, rfl⟩)
          have hng : ¬ (x : Int) - (q : Int) - (y : Int) < 0 := by omega
          have hdi : (x : Int) - (q : Int) - (y : Int) = (d : Int) := by omega
          have HST := Lib.hid hst2; have HDI := Lib.hid hdi
          clear hst hst2 hdi hd hbw hinv hx ka hs1 hy kb hs2
          go_wp2_with (first | (at_builtin; refine walk_pushI (w0 := w) rfl _ _ rfl w.heap.size _ out [d] rfl (hown.out.alloc _) (hbr.out.alloc hsize _) (Nat.le_trans hsize (by simp)) wr.heap.size 0 1 1 rfl rfl (new_num1 .i64 wr _ d HDI.out _) hol ?_; intro v3 W3 ho3 hb3))
          go_roundw
          case rel => exact ⟨out ++ [d], k + 1, 0, by omega, by go_num, rfl, HST.out, ho3, hb3⟩
          case measure => simp [RowKit.intOf]; omega
      · have hB2 : ¬ (k : Int) < (n2 : Int) := by omega
        have yz : b.getD k 0 = 0 := by rw [List.getD_eq_getElem?_getD, List.getElem?_eq_none (by rw [E2.out]; omega)]; rfl
        rw [yz] at hst
        by_cases hn : x < q
        · obtain ⟨d, hd⟩ : ∃ d, x + 10 - q - 0 = d := ⟨_, rfl⟩
          have hst2 := hst d 1 (.inr ⟨by omega, hd.symm, rfl⟩)
          have hng : (x : Int) - (q : Int) < 0 := by omega
          have hdi : (x : Int) - (q : Int) + 10 = (d : Int) := by omega
          have HST := Lib.hid hst2; have HDI := Lib.hid hdi
          clear hst hst2 hdi hd hbw hinv hx ka hs1 yz
          go_wp2_with (first | (at_builtin; refine walk_pushI (w0 := w) rfl _ _ rfl w.heap.size _ out [d] rfl (hown.out.alloc _) (hbr.out.alloc hsize _) (Nat.le_trans hsize (by simp)) wr.heap.size 0 1 1 rfl rfl (new_num1 .i64 wr _ d HDI.out _) hol ?_; intro v3 W3 ho3 hb3))
          go_roundw
          case rel => exact ⟨out ++ [d], k + 1, 1, by omega, by go_num, rfl, HST.out, ho3, hb3⟩
          case measure => simp [RowKit.intOf]; omega
        · obtain ⟨d, hd⟩ : ∃ d, x - q - 0 = d := ⟨_, rfl⟩
          have hst2 := hst d 0 (.inl ⟨by omega, hd.symm, rfl⟩)
          have hng : ¬ (x : Int) - (q : Int) < 0 := by omega
          have hdi : (x : Int) - (q : Int) = (d : Int) := by omega
          have HST := Lib.hid hst2; have HDI := Lib.hid hdi
          clear hst hst2 hdi hd hbw hinv hx ka hs1 yz
          go_wp2_with (first | (at_builtin; refine walk_pushI (w0 := w) rfl _ _ rfl w.heap.size _ out [d] rfl (hown.out.alloc _) (hbr.out.alloc hsize _) (Nat.le_trans hsize (by simp)) wr.heap.size 0 1 1 rfl rfl (new_num1 .i64 wr _ d HDI.out _) hol ?_; intro v3 W3 ho3 hb3))
          go_roundw
          case rel => exact ⟨out ++ [d], k + 1, 0, by omega, by go_num, rfl, HST.out, ho3, hb3⟩
          case measure => simp [RowKit.intOf]; omega
    · have hA2 : ¬ (k : Int) < (n1 : Int) := by omega
      have hk1 : k = a.length := by rw [E1.out]; omega
      have hkn : k = n1 := by omega
      have hinv2 := hinv.out
      rw [hk1] at hinv2
      have hfin := minus_end HB.out hinv2 HLE.out (by rw [E1.out, E2.out]; exact hnn)
      rw [HS.out] at hfin
      have hod : IsDig out := hinv2.2.1
      have hol : out.length = n1 := by rw [hinv2.1]; exact E1.out
      have htk := trimD_take n1 hol hod
      rw [hfin] at htk
      obtain ⟨ad, cap, rfl, hh, hnew⟩ := own_hold hown.out n1 hol hn1
      have c := trim_any out hod ad cap wr hh n1 hol
      rw [hfin] at c
      have hh2 := hh.take (digs S).length
      rw [← htk] at hh2
      have C := Lib.hid c; have HH2 := Lib.hid hh2; have HNEW := Lib.hid hnew
      clear c hh hh2 hnew htk hod hol hfin hinv2 hinv hk1 hkn hown
      go_wp2_with fail
      refine C.out.mono ?_
      rintro e W1 ⟨rfl, rfl⟩
      go_wp2
      go_ret
      exact ⟨ad, cap, rfl, HH2.out, hbr.out, HNEW.out⟩
end Go.Proofs.YtlcibnmcannapaaGreatDoor

namespace Go.Proofs.YtlcibnmcannapaaGreatDoor
open Go Go.Proofs Go.RowKit Go.Lib

set_option maxHeartbeats 2000000 in
theorem checked_any (neg : Bool) (n : Nat) (ad : Option Addr) (cap m : Nat) (w : World) (h : HoldI w ad cap (digs n)) (hm : (digs n).length = m) :
    Calls Tryz.prog 73 #[.bool neg, .slice ad m cap] w fun e w' => e = .returned (.tuple #[.string (resT (intD neg n)), .int .i64 (resZ (intD neg n))]) ∧ Below w.heap.size w w' := by
  have c := text_any neg n ad cap m w h hm
  have hf := fits_iff hm
  have hr1 : m ≤ 200 → resT (intD neg n) = textI (intD neg n) ∧ resZ (intD neg n) = 0 := fun h => by
    unfold resT resZ; rw [intD_abs, if_pos (hf.1 h), if_pos (hf.1 h)]; exact ⟨rfl, rfl⟩
  have hr2 : ¬ m ≤ 200 → resT (intD neg n) = ByteArray.empty ∧ resZ (intD neg n) = 30 := fun h => by
    unfold resT resZ; rw [intD_abs, if_neg (fun hx => h (hf.2 hx)), if_neg (fun hx => h (hf.2 hx))]; exact ⟨rfl, rfl⟩
  obtain ⟨T, hT⟩ : ∃ T, textI (intD neg n) = T := ⟨_, rfl⟩
  obtain ⟨U, hU⟩ : ∃ T, resT (intD neg n) = T := ⟨_, rfl⟩
  obtain ⟨Z, hZ⟩ : ∃ T, resZ (intD neg n) = T := ⟨_, rfl⟩
  rw [hT] at c hr1
  rw [hU, hZ] at hr1 hr2
  rw [hU, hZ]
  clear hT hU hZ hf h hm
  by_cases hb : m ≤ 200
  · obtain ⟨rfl, rfl⟩ := hr1 hb
    rw [decide_eq_true hb] at c
    have C := Lib.hid c
    clear c hr1 hr2
    go_enter Tryz.func73, Tryz.ntmps73
    go_wp2_with fail
    refine C.out.mono ?_
    rintro e w1 ⟨rfl, hb1⟩
    go_wp2
    go_ret2
    exact ⟨rfl, hb1⟩
  · obtain ⟨rfl, rfl⟩ := hr2 hb
    rw [decide_eq_false hb] at c
    have C := Lib.hid c
    clear c hr1 hr2
    go_enter Tryz.func73, Tryz.ntmps73
    go_wp2_with fail
    refine C.out.mono ?_
    rintro e w1 ⟨rfl, hb1⟩
    go_wp2
    go_ret2
    exact ⟨rfl, hb1⟩
end Go.Proofs.YtlcibnmcannapaaGreatDoor

namespace Go.Proofs.YtlcibnmcannapaaGreatDoor
open Go Go.Proofs Go.RowKit Go.Lib

theorem textN_get {n : Nat} (h : n ≠ 0) (j q : Nat) (hq : (digs n).length = q) (hj : j < q) : (textN n).getD j 0 = 48 + (digs n).getD (q - 1 - j) 0 := by
  subst hq
  unfold textN
  rw [if_neg h, List.getD_eq_getElem?_getD, List.getElem?_eq_getElem (by simpa using hj)]
  simp [List.getD_eq_getElem?_getD, show (digs n).length - 1 - j < (digs n).length by omega]
set_option maxRecDepth 100000 in
set_option maxHeartbeats 8000000 in
theorem digits_any (x : Int) (hsz : (textI x).size ≤ 1000) (w : World) :
    Calls Tryz.prog 72 #[.string (textI x)] w fun e w' => ∃ ad cap, e = .returned (.tuple #[.bool (decide (x < 0)), .slice ad (digs x.natAbs).length cap]) ∧ HoldI w' ad cap (digs x.natAbs) ∧ Below w.heap.size w w' := by
  obtain ⟨n, hn⟩ : ∃ n, x.natAbs = n := ⟨_, rfl⟩
  have htx : textI x = byteL ((if x < 0 then [45] else []) ++ textN n) := by unfold textI; rw [hn]
  have hlen := byteL_size (textN n)
  have hbb := fun i hi => byteL_get (textN n) (textN_lt n) i hi
  have htd := textN_dig n
  have hz0 : n = 0 → byteL (textN n) = ⟨#[48]⟩ := fun h => by subst h; rfl
  have hnz : n ≠ 0 → byteL (textN n) ≠ ⟨#[48]⟩ := fun h e => by
    have h1 : byteL (textN n) = byteL (textN 0) := e
    exact h (textN_inj (byteL_inj (textN_lt n) (textN_lt 0) h1))
  obtain ⟨R, hR⟩ : ∃ R, byteL (textN n) = R := ⟨_, rfl⟩
  rw [hn]
  by_cases hx : x < 0
  · rw [if_pos hx] at htx
    have hdx : decide (x < 0) = true := decide_eq_true hx
    have hn0 : n ≠ 0 := by omega
    have htx2 : textI x = byteL (45 :: textN n) := htx
    have hex := extract_one (textN n)
    rw [← htx2, hR] at hex
    have hs0 : 0 < (textI x).size := by rw [htx2, byteL_size]; simp
    have hch : ((textI x)[0]'hs0).toNat = 45 := by
      have h45 : ∀ z ∈ 45 :: textN n, z < 256 := by
        intro z hz
        rcases List.mem_cons.1 hz with h | h
        · omega
        · exact textN_lt n z h
      have h := byteL_get (45 :: textN n) h45 0 (by rw [byteL_size]; simp)
      simp only [← htx2] at h
      simpa using h
    have hc1 : ((((textI x)[0]'hs0).toNat : Int) == 45) = true := by rw [hch]; rfl
    have hRs : R.size + 1 = (textI x).size := by rw [htx2, byteL_size, ← hR, byteL_size]; simp
    have hsl : ∀ w, (Instr.slice 9 (.string (textI x)) (some (.int .i64 1)) none none).run Tryz.prog w = .ok (.string R) w := fun w => slice_from Tryz.prog 9 Tryz.underlying9 (textI x) 1 (by omega) R hex w
    rw [hdx]
    rw [hR] at hlen hbb hnz
    obtain ⟨S, hS⟩ : ∃ S, textI x = S := ⟨_, rfl⟩
    simp only [hS] at hc1 hsl hsz hs0 hRs hex ⊢
    clear htx htx2 hch hx hdx hn hz0 hR
    have hne1 : (R.toList == (⟨#[48]⟩ : ByteArray).toList) = false := by rw [str_eq_iff, decide_eq_false (hnz hn0)]
    have hne2 : (R.toList != (⟨#[48]⟩ : ByteArray).toList) = true := by rw [bne, hne1]; rfl
    have hne3 : (R.toList == [48]) = false := by rw [← list48]; exact hne1
    have hl := textN_len hn0
    have hg := fun j q hq hj => textN_get hn0 j q hq hj
    have hdl := digs_lt n
    rw [hl] at hlen
    obtain ⟨l, hle⟩ : ∃ l, digs n = l := ⟨_, rfl⟩
    rw [hle] at hlen hg hdl ⊢
    obtain ⟨q, hq⟩ : ∃ q, l.length = q := ⟨_, rfl⟩
    rw [hq] at hlen
    have hgq := fun j (hj : j < q) => hg j q hq hj
    have hch : ∀ j (hj : j < R.size), (R[j]'hj).toNat = 48 + l.getD (q - 1 - j) 0 := fun j hj => by rw [hbb j hj]; exact hgq j (by omega)
    have hq1000 : q ≤ 1000 := by omega
    rw [hq]
    have HCH := Lib.hid hch; have HQ := Lib.hid hq; have HDL := Lib.hid hdl
    clear hg hgq hch hbb hq hl hle hdl hnz htd hn0
    go_enter Tryz.func72, Tryz.ntmps72
    go_wp2_with fail
    go_loopw [5, 6] (fun v i wr => ∃ t : Nat, t ≤ q ∧ i = .int .i64 ((t : Int) - 1) ∧ Hid (OwnI wr w.heap.size v (l.take (q - t))) ∧ Hid (Below w.heap.size w wr)) (fun _ i _ => (RowKit.intOf i + 1).toNat)
    case atStart => exact ⟨q, Nat.le_refl _, by first | rfl | rw [hlen], (by rw [Nat.sub_self, List.take_zero]; exact OwnI.nil _ _ : OwnI w w.heap.size _ (l.take (q - q))), Below.refl _ _⟩
    case round =>
      obtain ⟨t, ht, rfl, hown, hbr⟩ := hrel
      by_cases ht0 : t = 0
      · subst ht0
        have hneg : ¬ (0 : Int) ≤ ((0 : Nat) : Int) - 1 := by omega
        rw [Nat.sub_zero, List.take_of_length_le (by rw [HQ.out]; omega)] at hown
        obtain ⟨ad, cap, rfl, hh⟩ := hown.out.holds q HQ.out (by omega)
        have HH := Lib.hid hh
        clear hh hown
        go_wp2_with fail
        go_ret2
        exact ⟨ad, cap, rfl, HH.out, hbr.out⟩
      · obtain ⟨j, rfl⟩ : ∃ j, t = j + 1 := ⟨t - 1, by omega⟩
        have hj : (((j + 1 : Nat) : Int) - 1) = (j : Int) := by omega
        rw [hj]
        have hj0 : (0 : Int) ≤ (j : Int) := by omega
        have hjR : j < R.size := by omega
        have hixj := fun w => index_str R j hjR w
        rw [HCH.out j hjR] at hixj
        have hnext := take_snoc l (q - (j + 1)) (by rw [HQ.out]; omega)
        rw [show q - (j + 1) + 1 = q - j by omega, show q - (j + 1) = q - 1 - j by omega] at hnext
        rw [show q - (j + 1) = q - 1 - j by omega] at hown
        have hd10 := getD_dig HDL.out (q - 1 - j)
        obtain ⟨d, hd⟩ : ∃ d, l.getD (q - 1 - j) 0 = d := ⟨_, rfl⟩
        rw [hd] at hixj hnext hd10
        obtain ⟨p, hp⟩ : ∃ p, l.take (q - 1 - j) = p := ⟨_, rfl⟩
        rw [hp] at hown hnext
        have hpl : p.length + 1 ≤ 17592186044416 := by rw [← hp, List.length_take, HQ.out]; omega
        have hsize := hbr.out.size
        have hjs : (j : Int) < (R.size : Int) := by omega
        obtain ⟨y, hy⟩ : ∃ y, 48 + d = y := ⟨_, rfl⟩
        rw [hy] at hixj
        have hw1 : IntKind.u8.wrap ((y : Int) - 48) = (d : Int) := by rw [IntKind.wrap_u8]; omega
        have hw2 : ((y : Int) - 48) % 256 = (d : Int) := by omega
        have hw3 : (y : Int) - 48 = (d : Int) := by omega
        have HN := Lib.hid hnext
        clear hnext hd hp hy ht0
        go_wp2_with (first | (at_builtin; refine walk_pushI (w0 := w) rfl _ _ rfl w.heap.size _ p [d] rfl (hown.out.alloc _) (hbr.out.alloc hsize _) (Nat.le_trans hsize (by simp)) wr.heap.size 0 1 1 rfl rfl (new_num1 .i64 wr _ d (by first | rfl | assumption | omega) _) hpl ?_; intro v3 W3 ho3 hb3))
        go_roundw
        case rel => exact ⟨j, by omega, by go_num, by rw [HN.out]; exact ho3, hb3⟩
        case measure => simp [RowKit.intOf]
  · rw [if_neg hx, List.nil_append, hR] at htx
    have hdx : decide (x < 0) = false := decide_eq_false hx
    rw [hdx]
    have hRs : R.size ≤ 1000 := by rw [← htx]; exact hsz
    have hs0 : 0 < R.size := by
      rw [← hR, byteL_size]
      exact List.length_pos_iff.2 (textN_ne_nil n)
    have h45 : ((R[0]'hs0).toNat : Int) ≠ 45 := by
      have h := byteL_get (textN n) (textN_lt n) 0 (by rw [hR]; exact hs0)
      simp only [hR] at h
      rw [h, List.getD_eq_getElem?_getD, List.getElem?_eq_getElem (List.length_pos_iff.2 (textN_ne_nil n))]
      have := htd _ (List.getElem_mem (List.length_pos_iff.2 (textN_ne_nil n)))
      simp
      omega
    have hc1 : (((R[0]'hs0).toNat : Int) == 45) = false := by rw [beq_eq_false_iff_ne]; exact h45
    rw [htx]
    rw [hR] at hlen hbb hnz hz0
    clear htx hx hdx hn h45 hR hsz
    by_cases hn0 : n = 0
    · have hR0 := hz0 hn0
      subst hR0
      subst hn0
      have hd0 : (digs 0).length = 0 := rfl
      clear hbb hnz hz0 htd hlen
      go_enter Tryz.func72, Tryz.ntmps72
      go_wp2_with fail
      go_loopw [5, 6] (fun v i wr => v = .slice none 0 0 ∧ i = .int .i64 0 ∧ wr = w) (fun _ _ _ => 0)
      case atStart => exact ⟨rfl, rfl, rfl⟩
      case round =>
        obtain ⟨rfl, rfl, rfl⟩ := hrel
        go_wp2_with fail
        go_ret2
        exact ⟨none, 0, rfl, HoldI.nil _ _ _, Below.refl _ _⟩
    · clear hz0
      have hne1 : (R.toList == (⟨#[48]⟩ : ByteArray).toList) = false := by rw [str_eq_iff, decide_eq_false (hnz hn0)]
      have hne2 : (R.toList != (⟨#[48]⟩ : ByteArray).toList) = true := by rw [bne, hne1]; rfl
      have hne3 : (R.toList == [48]) = false := by rw [← list48]; exact hne1
      have hl := textN_len hn0
      have hg := fun j q hq hj => textN_get hn0 j q hq hj
      have hdl := digs_lt n
      rw [hl] at hlen
      obtain ⟨l, hle⟩ : ∃ l, digs n = l := ⟨_, rfl⟩
      rw [hle] at hlen hg hdl ⊢
      obtain ⟨q, hq⟩ : ∃ q, l.length = q := ⟨_, rfl⟩
      rw [hq] at hlen
      have hgq := fun j (hj : j < q) => hg j q hq hj
      have hch : ∀ j (hj : j < R.size), (R[j]'hj).toNat = 48 + l.getD (q - 1 - j) 0 := fun j hj => by rw [hbb j hj]; exact hgq j (by omega)
      have hq1000 : q ≤ 1000 := by omega
      rw [hq]
      have HCH := Lib.hid hch; have HQ := Lib.hid hq; have HDL := Lib.hid hdl
      clear hg hgq hch hbb hq hl hle hdl hnz htd hn0
      go_enter Tryz.func72, Tryz.ntmps72
      go_wp2_with fail
      go_loopw [5, 6] (fun v i wr => ∃ t : Nat, t ≤ q ∧ i = .int .i64 ((t : Int) - 1) ∧ Hid (OwnI wr w.heap.size v (l.take (q - t))) ∧ Hid (Below w.heap.size w wr)) (fun _ i _ => (RowKit.intOf i + 1).toNat)
      case atStart => exact ⟨q, Nat.le_refl _, by first | rfl | rw [hlen], (by rw [Nat.sub_self, List.take_zero]; exact OwnI.nil _ _ : OwnI w w.heap.size _ (l.take (q - q))), Below.refl _ _⟩
      case round =>
        obtain ⟨t, ht, rfl, hown, hbr⟩ := hrel
        by_cases ht0 : t = 0
        · subst ht0
          have hneg : ¬ (0 : Int) ≤ ((0 : Nat) : Int) - 1 := by omega
          rw [Nat.sub_zero, List.take_of_length_le (by rw [HQ.out]; omega)] at hown
          obtain ⟨ad, cap, rfl, hh⟩ := hown.out.holds q HQ.out (by omega)
          have HH := Lib.hid hh
          clear hh hown
          go_wp2_with fail
          go_ret2
          exact ⟨ad, cap, rfl, HH.out, hbr.out⟩
        · obtain ⟨j, rfl⟩ : ∃ j, t = j + 1 := ⟨t - 1, by omega⟩
          have hj : (((j + 1 : Nat) : Int) - 1) = (j : Int) := by omega
          rw [hj]
          have hj0 : (0 : Int) ≤ (j : Int) := by omega
          have hjR : j < R.size := by omega
          have hixj := fun w => index_str R j hjR w
          rw [HCH.out j hjR] at hixj
          have hnext := take_snoc l (q - (j + 1)) (by rw [HQ.out]; omega)
          rw [show q - (j + 1) + 1 = q - j by omega, show q - (j + 1) = q - 1 - j by omega] at hnext
          rw [show q - (j + 1) = q - 1 - j by omega] at hown
          have hd10 := getD_dig HDL.out (q - 1 - j)
          obtain ⟨d, hd⟩ : ∃ d, l.getD (q - 1 - j) 0 = d := ⟨_, rfl⟩
          rw [hd] at hixj hnext hd10
          obtain ⟨p, hp⟩ : ∃ p, l.take (q - 1 - j) = p := ⟨_, rfl⟩
          rw [hp] at hown hnext
          have hpl : p.length + 1 ≤ 17592186044416 := by rw [← hp, List.length_take, HQ.out]; omega
          have hsize := hbr.out.size
          have hjs : (j : Int) < (R.size : Int) := by omega
          obtain ⟨y, hy⟩ : ∃ y, 48 + d = y := ⟨_, rfl⟩
          rw [hy] at hixj
          have hw1 : IntKind.u8.wrap ((y : Int) - 48) = (d : Int) := by rw [IntKind.wrap_u8]; omega
          have hw2 : ((y : Int) - 48) % 256 = (d : Int) := by omega
          have hw3 : (y : Int) - 48 = (d : Int) := by omega
          have HN := Lib.hid hnext
          clear hnext hd hp hy ht0
          go_wp2_with (first | (at_builtin; refine walk_pushI (w0 := w) rfl _ _ rfl w.heap.size _ p [d] rfl (hown.out.alloc _) (hbr.out.alloc hsize _) (Nat.le_trans hsize (by simp)) wr.heap.size 0 1 1 rfl rfl (new_num1 .i64 wr _ d (by first | rfl | assumption | omega) _) hpl ?_; intro v3 W3 ho3 hb3))
          go_roundw
          case rel => exact ⟨j, by omega, by go_num, by rw [HN.out]; exact ho3, hb3⟩
          case measure => simp [RowKit.intOf]
end Go.Proofs.YtlcibnmcannapaaGreatDoor

namespace Go.Proofs.YtlcibnmcannapaaGreatDoor
open Go Go.Proofs Go.RowKit Go.Lib

set_option maxRecDepth 100000 in
set_option maxHeartbeats 8000000 in
theorem valid_any (s : ByteArray) (hs : s.size ≤ 1099511627776) (w : World) :
    Calls Tryz.prog 60 #[.string s] w fun e w' => e = .returned (.bool (validB s)) ∧ w = w' := by
  by_cases hsg : ∃ h : 0 < s.size, (s[0]'h).toNat = 45
  · obtain ⟨h0, h45⟩ := hsg
    have hc := bytesL_cons s h0
    rw [h45] at hc
    obtain ⟨R, hex⟩ : ∃ R, s.extract 1 s.size = R := ⟨_, rfl⟩
    rw [hex] at hc
    have hval : validB s = (decide (bytesL R ≠ [48]) && plainB (bytesL R)) := by unfold validB; rw [hc]; rfl
    have hRs : R.size + 1 = s.size := by rw [← hex, ByteArray.size_extract]; omega
    have hsl : ∀ w, (Instr.slice 9 (.string s) (some (.int .i64 1)) none none).run Tryz.prog w = .ok (.string R) w := fun w => slice_from Tryz.prog 9 Tryz.underlying9 s 1 (by omega) R hex w
    have hc1 : (((s[0]'h0).toNat : Int) == 45) = true := by rw [h45]; rfl
    have h0i : (0 : Int) < (s.size : Int) := by omega
    have hR40 : R.size ≤ 1099511627776 := by omega
    by_cases hR0 : R = ⟨#[48]⟩
    · have hv : validB s = false := by rw [hval, (bytesL_48 R).2 hR0]; rfl
      subst hR0
      have HV := Lib.hid hv
      rw [hv]
      clear hv hval hc h45 hR40
      go_enter Tryz.func60, Tryz.ntmps60
      go_wp2_with fail
      go_ret
      exact ⟨rfl, rfl⟩
    · have hv : validB s = plainB (bytesL R) := by
        have hq : decide (bytesL R ≠ [48]) = true := decide_eq_true (fun h => hR0 ((bytesL_48 R).1 h))
        rw [hval, hq, Bool.true_and]
      have hne1 : (R.toList == (⟨#[48]⟩ : ByteArray).toList) = false := by rw [str_eq_iff, decide_eq_false hR0]
      have hne3 : (R.toList == [48]) = false := by rw [← list48]; exact hne1
      rw [hv]
      clear hv hval hc h45
      obtain ⟨B, hB⟩ : ∃ B, plainB (bytesL R) = B := ⟨_, rfl⟩
      rw [hB]
      have HBR := Lib.hid hB
      clear hB
      go_enter Tryz.func60, Tryz.ntmps60
      go_wp2_with fail
      go_loop [3] (fun i => ∃ k : Nat, k ≤ R.size ∧ i = .int .i64 k ∧ Hid (∀ j (hj : j < R.size), j < k → 48 ≤ (R[j]'hj).toNat ∧ (R[j]'hj).toNat < 58)) (fun i => R.size - (RowKit.intOf i).toNat)
      case atStart => exact ⟨0, Nat.zero_le _, rfl, (fun j _ h => absurd h (by omega) : ∀ j (hj : j < R.size), j < 0 → 48 ≤ (R[j]'hj).toNat ∧ (R[j]'hj).toNat < 58)⟩
      case round =>
        obtain ⟨k, hk, rfl, hall⟩ := hrel
        by_cases hlt : k < R.size
        · have hk1 : (k : Int) < (R.size : Int) := by omega
          have hix := fun w => index_str R k hlt w
          have hbad := plain_bad k hlt
          have hnx : 48 ≤ (R[k]'hlt).toNat ∧ (R[k]'hlt).toNat < 58 → ∀ j (hj : j < R.size), j < k + 1 → 48 ≤ (R[j]'hj).toNat ∧ (R[j]'hj).toNat < 58 := fun hx j hj hjk => by
            by_cases h : j = k
            · subst h; exact hx
            · exact hall.out j hj (by omega)
          obtain ⟨x, hx⟩ : ∃ x, (R[k]'hlt).toNat = x := ⟨_, rfl⟩
          rw [hx] at hix hbad hnx
          have HB := Lib.hid hbad; have HNX := Lib.hid hnx
          clear hbad hnx hx
          by_cases h1 : x < 48
          · have a1 : (x : Int) < 48 := by omega
            have a2 : decide ((x : Int) < 48) = true := decide_eq_true a1
            have a3 : decide (x < 48) = true := decide_eq_true h1
            have hbf : false = B := by rw [← HBR.out, HB.out (.inl h1)]
            have HBF := Lib.hid hbf
            clear hbf
            go_wp2_with fail
            go_ret
            exact ⟨ret_bool HBF.out, rfl⟩
          · have a1 : ¬ (x : Int) < 48 := by omega
            have a2 : decide ((x : Int) < 48) = false := decide_eq_false a1
            have a3 : decide (x < 48) = false := decide_eq_false h1
            by_cases h2 : 57 < x
            · have c1 : (57 : Int) < (x : Int) := by omega
              have c2 : decide ((57 : Int) < (x : Int)) = true := decide_eq_true c1
              have c3 : decide (57 < x) = true := decide_eq_true h2
              have hbf : false = B := by rw [← HBR.out, HB.out (.inr h2)]
              have HBF := Lib.hid hbf
              clear hbf
              go_wp2_with fail
              go_ret
              exact ⟨ret_bool HBF.out, rfl⟩
            · have c1 : ¬ (57 : Int) < (x : Int) := by omega
              have c2 : decide ((57 : Int) < (x : Int)) = false := decide_eq_false c1
              have c3 : decide (57 < x) = false := decide_eq_false h2
              have HX := Lib.hid (show 48 ≤ x ∧ x < 58 by omega)
              go_wp2_with fail
              go_round
              case rel => exact ⟨k + 1, by omega, by go_num, HNX.out HX.out⟩
              case measure => simp [RowKit.intOf]; omega
        · have hk1 : ¬ (k : Int) < (R.size : Int) := by omega
          have hgood := plain_good (s := R) (fun j hj => hall.out j hj (by omega))
          by_cases z0 : 0 < R.size
          · have d0 : (0 : Int) < (R.size : Int) := by omega
            have d1 : decide ((0 : Int) < (R.size : Int)) = true := decide_eq_true d0
            have d2 : decide (0 < R.size) = true := decide_eq_true z0
            by_cases z2 : R.size ≤ 200
            · have f0 : (R.size : Int) ≤ 200 := by omega
              have f1 : decide ((R.size : Int) ≤ 200) = true := decide_eq_true f0
              have f2 : decide (R.size ≤ 200) = true := decide_eq_true z2
              rw [decide_eq_true (show 0 < R.size ∧ R.size ≤ 200 from ⟨z0, z2⟩), Bool.true_and] at hgood
              by_cases z3 : R = ⟨#[48]⟩
              · exact absurd z3 hR0
              · have e1 : (R.toList == (⟨#[48]⟩ : ByteArray).toList) = false := by rw [str_eq_iff, decide_eq_false z3]
                have e3 : (R.toList == [48]) = false := by rw [← list48]; exact e1
                rw [decide_eq_false (fun h => z3 ((bytesL_48 R).1 h)), Bool.false_or] at hgood
                by_cases z4 : (R[0]'z0).toNat = 48
                · have g1 : (((R[0]'z0).toNat : Int) != 48) = false := by rw [bne_eq_false_iff_eq]; omega
                  have g2 : (((R[0]'z0).toNat : Int) == 48) = true := by rw [beq_iff_eq]; omega
                  rw [decide_eq_false (fun h => (head48 R z0).1 h z4)] at hgood
                  have hbf := HBR.out
                  rw [hgood] at hbf
                  have HBF := Lib.hid hbf
                  clear hbf
                  clear hgood z3 z4
                  go_wp2_with fail
                  go_ret
                  first
                    | exact ⟨ret_bool HBF.out, rfl⟩
                    | exact ⟨ret_bool (g1.trans HBF.out), rfl⟩
                · have g1 : (((R[0]'z0).toNat : Int) != 48) = true := by rw [bne_iff_ne]; omega
                  have g2 : (((R[0]'z0).toNat : Int) == 48) = false := by rw [beq_eq_false_iff_ne]; omega
                  rw [decide_eq_true ((head48 R z0).2 z4)] at hgood
                  have hbf := HBR.out
                  rw [hgood] at hbf
                  have HBF := Lib.hid hbf
                  clear hbf
                  clear hgood z3 z4
                  go_wp2_with fail
                  go_ret
                  first
                    | exact ⟨ret_bool HBF.out, rfl⟩
                    | exact ⟨ret_bool (g1.trans HBF.out), rfl⟩
            · have f0 : ¬ (R.size : Int) ≤ 200 := by omega
              have f1 : decide ((R.size : Int) ≤ 200) = false := decide_eq_false f0
              have f2 : decide (R.size ≤ 200) = false := decide_eq_false z2
              rw [decide_eq_false (show ¬ (0 < R.size ∧ R.size ≤ 200) from fun h => z2 h.2), Bool.false_and] at hgood
              have hbf := HBR.out
              rw [hgood] at hbf
              have HBF := Lib.hid hbf
              clear hbf
              clear hgood
              go_wp2_with fail
              go_ret
              exact ⟨ret_bool HBF.out, rfl⟩
          · have d0 : ¬ (0 : Int) < (R.size : Int) := by omega
            have d1 : decide ((0 : Int) < (R.size : Int)) = false := decide_eq_false d0
            have d2 : decide (0 < R.size) = false := decide_eq_false z0
            rw [decide_eq_false (show ¬ (0 < R.size ∧ R.size ≤ 200) from fun h => z0 h.1), Bool.false_and] at hgood
            have hbf := HBR.out
            rw [hgood] at hbf
            have HBF := Lib.hid hbf
            clear hbf
            clear hgood
            go_wp2_with fail
            go_ret
            exact ⟨ret_bool HBF.out, rfl⟩
  · have hv : validB s = plainB (bytesL s) := by
      unfold validB
      by_cases h0 : 0 < s.size
      · rw [bytesL_cons s h0]
        unfold validL
        split
        · rename_i r he
          exact absurd ⟨h0, (List.cons.inj he).1⟩ hsg
        · rfl
      · have : bytesL s = [] := List.eq_nil_of_length_eq_zero (by rw [bytesL_length]; omega)
        rw [this]; rfl
    rw [hv]
    obtain ⟨R, hR⟩ : ∃ R, s = R := ⟨_, rfl⟩
    rw [hR] at hs hsg ⊢
    clear hv hR
    have hR40 := hs
    by_cases h0 : 0 < R.size
    · have h0i : (0 : Int) < (R.size : Int) := by omega
      have hc1 : (((R[0]'h0).toNat : Int) == 45) = false := by rw [beq_eq_false_iff_ne]; intro e; exact hsg ⟨h0, by omega⟩
      clear hsg
      obtain ⟨B, hB⟩ : ∃ B, plainB (bytesL R) = B := ⟨_, rfl⟩
      rw [hB]
      have HBR := Lib.hid hB
      clear hB
      go_enter Tryz.func60, Tryz.ntmps60
      go_wp2_with fail
      go_loop [3] (fun i => ∃ k : Nat, k ≤ R.size ∧ i = .int .i64 k ∧ Hid (∀ j (hj : j < R.size), j < k → 48 ≤ (R[j]'hj).toNat ∧ (R[j]'hj).toNat < 58)) (fun i => R.size - (RowKit.intOf i).toNat)
      case atStart => exact ⟨0, Nat.zero_le _, rfl, (fun j _ h => absurd h (by omega) : ∀ j (hj : j < R.size), j < 0 → 48 ≤ (R[j]'hj).toNat ∧ (R[j]'hj).toNat < 58)⟩
      case round =>
        obtain ⟨k, hk, rfl, hall⟩ := hrel
        by_cases hlt : k < R.size
        · have hk1 : (k : Int) < (R.size : Int) := by omega
          have hix := fun w => index_str R k hlt w
          have hbad := plain_bad k hlt
          have hnx : 48 ≤ (R[k]'hlt).toNat ∧ (R[k]'hlt).toNat < 58 → ∀ j (hj : j < R.size), j < k + 1 → 48 ≤ (R[j]'hj).toNat ∧ (R[j]'hj).toNat < 58 := fun hx j hj hjk => by
            by_cases h : j = k
            · subst h; exact hx
            · exact hall.out j hj (by omega)
          obtain ⟨x, hx⟩ : ∃ x, (R[k]'hlt).toNat = x := ⟨_, rfl⟩
          rw [hx] at hix hbad hnx
          have HB := Lib.hid hbad; have HNX := Lib.hid hnx
          clear hbad hnx hx
          by_cases h1 : x < 48
          · have a1 : (x : Int) < 48 := by omega
            have a2 : decide ((x : Int) < 48) = true := decide_eq_true a1
            have a3 : decide (x < 48) = true := decide_eq_true h1
            have hbf : false = B := by rw [← HBR.out, HB.out (.inl h1)]
            have HBF := Lib.hid hbf
            clear hbf
            go_wp2_with fail
            go_ret
            exact ⟨ret_bool HBF.out, rfl⟩
          · have a1 : ¬ (x : Int) < 48 := by omega
            have a2 : decide ((x : Int) < 48) = false := decide_eq_false a1
            have a3 : decide (x < 48) = false := decide_eq_false h1
            by_cases h2 : 57 < x
            · have c1 : (57 : Int) < (x : Int) := by omega
              have c2 : decide ((57 : Int) < (x : Int)) = true := decide_eq_true c1
              have c3 : decide (57 < x) = true := decide_eq_true h2
              have hbf : false = B := by rw [← HBR.out, HB.out (.inr h2)]
              have HBF := Lib.hid hbf
              clear hbf
              go_wp2_with fail
              go_ret
              exact ⟨ret_bool HBF.out, rfl⟩
            · have c1 : ¬ (57 : Int) < (x : Int) := by omega
              have c2 : decide ((57 : Int) < (x : Int)) = false := decide_eq_false c1
              have c3 : decide (57 < x) = false := decide_eq_false h2
              have HX := Lib.hid (show 48 ≤ x ∧ x < 58 by omega)
              go_wp2_with fail
              go_round
              case rel => exact ⟨k + 1, by omega, by go_num, HNX.out HX.out⟩
              case measure => simp [RowKit.intOf]; omega
        · have hk1 : ¬ (k : Int) < (R.size : Int) := by omega
          have hgood := plain_good (s := R) (fun j hj => hall.out j hj (by omega))
          by_cases z0 : 0 < R.size
          · have d0 : (0 : Int) < (R.size : Int) := by omega
            have d1 : decide ((0 : Int) < (R.size : Int)) = true := decide_eq_true d0
            have d2 : decide (0 < R.size) = true := decide_eq_true z0
            by_cases z2 : R.size ≤ 200
            · have f0 : (R.size : Int) ≤ 200 := by omega
              have f1 : decide ((R.size : Int) ≤ 200) = true := decide_eq_true f0
              have f2 : decide (R.size ≤ 200) = true := decide_eq_true z2
              rw [decide_eq_true (show 0 < R.size ∧ R.size ≤ 200 from ⟨z0, z2⟩), Bool.true_and] at hgood
              by_cases z3 : R = ⟨#[48]⟩
              · have e1 : (R.toList == (⟨#[48]⟩ : ByteArray).toList) = true := by rw [str_eq_iff, decide_eq_true z3]
                have e3 : (R.toList == [48]) = true := by rw [← list48]; exact e1
                rw [decide_eq_true ((bytesL_48 R).2 z3), Bool.true_or] at hgood
                have hbf := HBR.out
                rw [hgood] at hbf
                have HBF := Lib.hid hbf
                clear hbf
                clear hgood z3
                go_wp2_with fail
                go_ret
                exact ⟨ret_bool HBF.out, rfl⟩
              · have e1 : (R.toList == (⟨#[48]⟩ : ByteArray).toList) = false := by rw [str_eq_iff, decide_eq_false z3]
                have e3 : (R.toList == [48]) = false := by rw [← list48]; exact e1
                rw [decide_eq_false (fun h => z3 ((bytesL_48 R).1 h)), Bool.false_or] at hgood
                by_cases z4 : (R[0]'z0).toNat = 48
                · have g1 : (((R[0]'z0).toNat : Int) != 48) = false := by rw [bne_eq_false_iff_eq]; omega
                  have g2 : (((R[0]'z0).toNat : Int) == 48) = true := by rw [beq_iff_eq]; omega
                  rw [decide_eq_false (fun h => (head48 R z0).1 h z4)] at hgood
                  have hbf := HBR.out
                  rw [hgood] at hbf
                  have HBF := Lib.hid hbf
                  clear hbf
                  clear hgood z3 z4
                  go_wp2_with fail
                  go_ret
                  first
                    | exact ⟨ret_bool HBF.out, rfl⟩
                    | exact ⟨ret_bool (g1.trans HBF.out), rfl⟩
                · have g1 : (((R[0]'z0).toNat : Int) != 48) = true := by rw [bne_iff_ne]; omega
                  have g2 : (((R[0]'z0).toNat : Int) == 48) = false := by rw [beq_eq_false_iff_ne]; omega
                  rw [decide_eq_true ((head48 R z0).2 z4)] at hgood
                  have hbf := HBR.out
                  rw [hgood] at hbf
                  have HBF := Lib.hid hbf
                  clear hbf
                  clear hgood z3 z4
                  go_wp2_with fail
                  go_ret
                  first
                    | exact ⟨ret_bool HBF.out, rfl⟩
                    | exact ⟨ret_bool (g1.trans HBF.out), rfl⟩
            · have f0 : ¬ (R.size : Int) ≤ 200 := by omega
              have f1 : decide ((R.size : Int) ≤ 200) = false := decide_eq_false f0
              have f2 : decide (R.size ≤ 200) = false := decide_eq_false z2
              rw [decide_eq_false (show ¬ (0 < R.size ∧ R.size ≤ 200) from fun h => z2 h.2), Bool.false_and] at hgood
              have hbf := HBR.out
              rw [hgood] at hbf
              have HBF := Lib.hid hbf
              clear hbf
              clear hgood
              go_wp2_with fail
              go_ret
              exact ⟨ret_bool HBF.out, rfl⟩
          · exact absurd h0 z0
    · have h0i : ¬ (0 : Int) < (R.size : Int) := by omega
      have hb : plainB (bytesL R) = false := by
        have : bytesL R = [] := List.eq_nil_of_length_eq_zero (by rw [bytesL_length]; omega)
        rw [this]; rfl
      have hd1 : decide ((0 : Int) < (R.size : Int)) = false := decide_eq_false h0i
      have hd2 : decide (0 < R.size) = false := decide_eq_false h0
      rw [hb]
      clear hsg hb
      go_enter Tryz.func60, Tryz.ntmps60
      go_wp2_with fail
      go_loop [3] (fun i => i = .int .i64 0) (fun _ => 0)
      case atStart => exact rfl
      case round =>
        obtain rfl := hrel
        go_wp2_with fail
        go_ret
        exact ⟨rfl, rfl⟩
end Go.Proofs.YtlcibnmcannapaaGreatDoor

namespace Go.Proofs.YtlcibnmcannapaaGreatDoor
open Go Go.Proofs Go.RowKit Go.Lib

set_option maxRecDepth 100000 in
set_option maxHeartbeats 4000000 in
theorem sum_any (b c : Bool) (m n : Nat) (ad1 ad2 : Option Addr) (c1 c2 n1 n2 : Nat) (w : World) (h1 : HoldI w ad1 c1 (digs m)) (h2 : HoldI w ad2 c2 (digs n)) (e1 : (digs m).length = n1) (e2 : (digs n).length = n2) (hn1 : n1 ≤ 1000) (hn2 : n2 ≤ 1000) :
    Calls Tryz.prog 75 #[.bool b, .slice ad1 n1 c1, .bool c, .slice ad2 n2 c2] w (ResPost w (intD b m + intD c n)) := by
  by_cases hbc : b = c
  · subst hbc
    have cp := plus_any m n ad1 ad2 c1 c2 n1 n2 w h1 h2 e1 e2 hn1 hn2
    have hx := intD_add b m n
    have hbb : (b == b) = true := by simp
    have CP := Lib.hid cp; have HX := Lib.hid hx
    clear cp hx h1 h2 e1 e2
    go_enter Tryz.func75, Tryz.ntmps75
    go_wp2_with fail
    refine CP.out.mono ?_
    rintro e w1 ⟨ad, cap, rfl, hh, hb, _⟩
    have cc := checked_any b (m + n) ad cap _ w1 hh rfl
    have CC := Lib.hid cc
    clear cc hh
    go_wp2_with fail
    refine CC.out.mono ?_
    rintro e w2 ⟨rfl, hb2⟩
    go_wp2
    go_ret2
    exact res_on (by rw [HX.out]; exact ⟨rfl, hb2⟩) hb
  · have hbb : (b == c) = false := by rw [beq_eq_false_iff_ne]; exact hbc
    have co := order_any m n ad1 ad2 c1 c2 n1 n2 w h1 h2 e1 e2
    by_cases hmn : n ≤ m
    · have hge := cmp_ge hmn
      obtain ⟨z, hz⟩ : ∃ z, cmpI m n = z := ⟨_, rfl⟩
      rw [hz] at co hge
      have hge1 := hge.1
      have hge2 := hge.2
      have cm := fun W (hb : Below w.heap.size w W) => minus_any m n hmn ad1 ad2 c1 c2 n1 n2 W (h1.below hb (Nat.le_refl _)) (h2.below hb (Nat.le_refl _)) e1 e2
      have hx := intD_sub hbc hmn
      have CO := Lib.hid co; have CM := Lib.hid cm; have HX := Lib.hid hx
      clear co cm hx h1 h2 e1 e2 hmn hbc hge hz
      go_enter Tryz.func75, Tryz.ntmps75
      go_wp2_with fail
      refine CO.out.mono ?_
      rintro e w0 ⟨rfl, k, rfl⟩
      have hb0 : Below w.heap.size w (w.drewN k) := below_drewN (Below.refl _ _) k
      go_wp2_with fail
      refine (CM.out _ hb0).mono ?_
      rintro e w1 ⟨ad, cap, rfl, hh, hb, _⟩
      have cc := checked_any b (m - n) ad cap _ w1 hh rfl
      have CC := Lib.hid cc
      clear cc hh
      go_wp2_with fail
      refine CC.out.mono ?_
      rintro e w2 ⟨rfl, hb2⟩
      go_wp2
      go_ret2
      exact res_on (by rw [HX.out]; exact ⟨rfl, hb2⟩) (below_drewN (Below.refl _ _) k |>.trans hb)
    · have hz := cmp_lt hmn
      rw [hz] at co
      have cm := fun W (hb : Below w.heap.size w W) => minus_any n m (by omega) ad2 ad1 c2 c1 n2 n1 W (h2.below hb (Nat.le_refl _)) (h1.below hb (Nat.le_refl _)) e2 e1
      have hx := intD_sub' hbc hmn
      have CO := Lib.hid co; have CM := Lib.hid cm; have HX := Lib.hid hx
      clear co cm hx h1 h2 e1 e2 hmn hbc hz
      go_enter Tryz.func75, Tryz.ntmps75
      go_wp2_with fail
      refine CO.out.mono ?_
      rintro e w0 ⟨rfl, k, rfl⟩
      have hb0 : Below w.heap.size w (w.drewN k) := below_drewN (Below.refl _ _) k
      go_wp2_with fail
      refine (CM.out _ hb0).mono ?_
      rintro e w1 ⟨ad, cap, rfl, hh, hb, _⟩
      have cc := checked_any c (n - m) ad cap _ w1 hh rfl
      have CC := Lib.hid cc
      clear cc hh
      go_wp2_with fail
      refine CC.out.mono ?_
      rintro e w2 ⟨rfl, hb2⟩
      go_wp2
      go_ret2
      exact res_on (by rw [HX.out]; exact ⟨rfl, hb2⟩) (below_drewN (Below.refl _ _) k |>.trans hb)
end Go.Proofs.YtlcibnmcannapaaGreatDoor

namespace Go.Proofs.YtlcibnmcannapaaGreatDoor
open Go Go.Proofs Go.RowKit Go.Lib

set_option maxRecDepth 100000 in
set_option maxHeartbeats 4000000 in
theorem addR_any (s t : ByteArray) (hs : s.size ≤ 1099511627776) (ht : t.size ≤ 1099511627776) (w : World) :
    Calls Tryz.prog 48 #[.string s, .string t] w fun e w' => e = .returned (.tuple #[.string (opT (· + ·) s t), .int .i64 (opZ (· + ·) s t)]) ∧ Below w.heap.size w w' := by
  have va := fun W => valid_any s hs W
  have vb := fun W => valid_any t ht W
  unfold opT opZ
  by_cases h1 : validB s = true
  · by_cases h2 : validB t = true
    · rw [h1] at va
      rw [h2] at vb
      obtain ⟨f1, g1⟩ := text_valid h1
      obtain ⟨f2, g2⟩ := text_valid h2
      rw [h1, h2, Bool.true_and, if_pos rfl, if_pos rfl]
      obtain ⟨x, hx⟩ : ∃ x, numB s = x := ⟨_, rfl⟩
      obtain ⟨y, hy⟩ : ∃ x, numB t = x := ⟨_, rfl⟩
      rw [hx] at f1 g1 ⊢
      rw [hy] at f2 g2 ⊢
      have d1 := fun W => digits_any x (fits_size f1) W
      have d2 := fun W => digits_any y (fits_size f2) W
      rw [← g1] at d1
      rw [← g2] at d2
      have l1 := fits_length f1
      have l2 := fits_length f2
      obtain ⟨b, hb⟩ : ∃ b, decide (x < 0) = b := ⟨_, rfl⟩
      obtain ⟨c, hc⟩ : ∃ b, decide (y < 0) = b := ⟨_, rfl⟩
      have i1 := intD_self x
      have i2 := intD_self y
      rw [hb] at d1 i1
      rw [hc] at d2 i2
      have cs := fun W a1 k1 a2 k2 (q1 : HoldI W a1 k1 (digs x.natAbs)) (q2 : HoldI W a2 k2 (digs y.natAbs)) => sum_any b c x.natAbs y.natAbs a1 a2 k1 k2 _ _ W q1 q2 rfl rfl (by omega) (by omega)
      rw [i1, i2] at cs
      have hL : (· + ·) x y = x + y := rfl
      rw [hL]
      obtain ⟨m, hm⟩ : ∃ m, (digs x.natAbs).length = m := ⟨_, rfl⟩
      obtain ⟨n, hn⟩ : ∃ m, (digs y.natAbs).length = m := ⟨_, rfl⟩
      rw [hm] at d1 cs
      rw [hn] at d2 cs
      have VA := Lib.hid va; have VB := Lib.hid vb; have D1 := Lib.hid d1; have D2 := Lib.hid d2; have CS := Lib.hid cs
      clear va vb d1 d2 cs i1 i2 hb hc hL hm hn h1 h2 g1 g2 hx hy f1 f2 l1 l2
      go_enter Tryz.func48, Tryz.ntmps48
      go_wp2_with fail
      refine (VA.out _).mono ?_
      rintro e w1 ⟨rfl, rfl⟩
      go_wp2_with fail
      refine (VB.out _).mono ?_
      rintro e w2 ⟨rfl, rfl⟩
      go_wp2_with fail
      refine (D1.out _).mono ?_
      rintro e w3 ⟨a1, k1, rfl, q1, b3⟩
      go_wp2_with fail
      refine (D2.out _).mono ?_
      rintro e w4 ⟨a2, k2, rfl, q2, b4⟩
      have B4 := Lib.hid (b3.trans (b4.mono b3.size))
      have C := Lib.hid (CS.out w4 a1 k1 a2 k2 (q1.below b4 (Nat.le_refl _)) q2)
      clear q1 q2 b3 b4 CS
      go_wp2_with fail
      refine C.out.mono ?_
      rintro e w5 ⟨rfl, b5⟩
      go_wp2
      go_ret2
      exact ⟨rfl, B4.out.trans (b5.mono B4.out.size)⟩
    · have h2' : validB t = false := by simpa using h2
      rw [h1] at va
      rw [h2'] at vb
      rw [h1, h2', Bool.and_false, if_neg (by simp), if_neg (by simp)]
      have VA := Lib.hid va; have VB := Lib.hid vb
      clear va vb h1 h2 h2'
      go_enter Tryz.func48, Tryz.ntmps48
      go_wp2_with fail
      refine (VA.out _).mono ?_
      rintro e w1 ⟨rfl, rfl⟩
      go_wp2_with fail
      refine (VB.out _).mono ?_
      rintro e w2 ⟨rfl, rfl⟩
      go_wp2
      go_ret2
      exact ⟨rfl, Below.refl _ _⟩
  · have h1' : validB s = false := by simpa using h1
    rw [h1'] at va
    rw [h1', Bool.false_and, if_neg (by simp), if_neg (by simp)]
    have VA := Lib.hid va
    clear va vb h1 h1'
    go_enter Tryz.func48, Tryz.ntmps48
    go_wp2_with fail
    refine (VA.out _).mono ?_
    rintro e w1 ⟨rfl, rfl⟩
    go_wp2
    go_ret2
    exact ⟨rfl, Below.refl _ _⟩
set_option maxRecDepth 100000 in
set_option maxHeartbeats 4000000 in
theorem subR_any (s t : ByteArray) (hs : s.size ≤ 1099511627776) (ht : t.size ≤ 1099511627776) (w : World) :
    Calls Tryz.prog 49 #[.string s, .string t] w fun e w' => e = .returned (.tuple #[.string (opT (· - ·) s t), .int .i64 (opZ (· - ·) s t)]) ∧ Below w.heap.size w w' := by
  have va := fun W => valid_any s hs W
  have vb := fun W => valid_any t ht W
  unfold opT opZ
  by_cases h1 : validB s = true
  · by_cases h2 : validB t = true
    · rw [h1] at va
      rw [h2] at vb
      obtain ⟨f1, g1⟩ := text_valid h1
      obtain ⟨f2, g2⟩ := text_valid h2
      rw [h1, h2, Bool.true_and, if_pos rfl, if_pos rfl]
      obtain ⟨x, hx⟩ : ∃ x, numB s = x := ⟨_, rfl⟩
      obtain ⟨y, hy⟩ : ∃ x, numB t = x := ⟨_, rfl⟩
      rw [hx] at f1 g1 ⊢
      rw [hy] at f2 g2 ⊢
      have d1 := fun W => digits_any x (fits_size f1) W
      have d2 := fun W => digits_any y (fits_size f2) W
      rw [← g1] at d1
      rw [← g2] at d2
      have l1 := fits_length f1
      have l2 := fits_length f2
      obtain ⟨b, hb⟩ : ∃ b, decide (x < 0) = b := ⟨_, rfl⟩
      obtain ⟨c, hc⟩ : ∃ b, decide (y < 0) = b := ⟨_, rfl⟩
      have i1 := intD_self x
      have i2 := intD_neg y
      rw [hb] at d1 i1
      rw [hc] at d2 i2
      have cs := fun W a1 k1 a2 k2 (q1 : HoldI W a1 k1 (digs x.natAbs)) (q2 : HoldI W a2 k2 (digs y.natAbs)) => sum_any b (!c) x.natAbs y.natAbs a1 a2 k1 k2 _ _ W q1 q2 rfl rfl (by omega) (by omega)
      rw [i1, i2] at cs
      have hL : (· - ·) x y = x + -y := rfl
      rw [hL]
      obtain ⟨m, hm⟩ : ∃ m, (digs x.natAbs).length = m := ⟨_, rfl⟩
      obtain ⟨n, hn⟩ : ∃ m, (digs y.natAbs).length = m := ⟨_, rfl⟩
      rw [hm] at d1 cs
      rw [hn] at d2 cs
      have VA := Lib.hid va; have VB := Lib.hid vb; have D1 := Lib.hid d1; have D2 := Lib.hid d2; have CS := Lib.hid cs
      clear va vb d1 d2 cs i1 i2 hb hc hL hm hn h1 h2 g1 g2 hx hy f1 f2 l1 l2
      go_enter Tryz.func49, Tryz.ntmps49
      go_wp2_with fail
      refine (VA.out _).mono ?_
      rintro e w1 ⟨rfl, rfl⟩
      go_wp2_with fail
      refine (VB.out _).mono ?_
      rintro e w2 ⟨rfl, rfl⟩
      go_wp2_with fail
      refine (D1.out _).mono ?_
      rintro e w3 ⟨a1, k1, rfl, q1, b3⟩
      go_wp2_with fail
      refine (D2.out _).mono ?_
      rintro e w4 ⟨a2, k2, rfl, q2, b4⟩
      have B4 := Lib.hid (b3.trans (b4.mono b3.size))
      have C := Lib.hid (CS.out w4 a1 k1 a2 k2 (q1.below b4 (Nat.le_refl _)) q2)
      clear q1 q2 b3 b4 CS
      go_wp2_with fail
      refine C.out.mono ?_
      rintro e w5 ⟨rfl, b5⟩
      go_wp2
      go_ret2
      exact ⟨rfl, B4.out.trans (b5.mono B4.out.size)⟩
    · have h2' : validB t = false := by simpa using h2
      rw [h1] at va
      rw [h2'] at vb
      rw [h1, h2', Bool.and_false, if_neg (by simp), if_neg (by simp)]
      have VA := Lib.hid va; have VB := Lib.hid vb
      clear va vb h1 h2 h2'
      go_enter Tryz.func49, Tryz.ntmps49
      go_wp2_with fail
      refine (VA.out _).mono ?_
      rintro e w1 ⟨rfl, rfl⟩
      go_wp2_with fail
      refine (VB.out _).mono ?_
      rintro e w2 ⟨rfl, rfl⟩
      go_wp2
      go_ret2
      exact ⟨rfl, Below.refl _ _⟩
  · have h1' : validB s = false := by simpa using h1
    rw [h1'] at va
    rw [h1', Bool.false_and, if_neg (by simp), if_neg (by simp)]
    have VA := Lib.hid va
    clear va vb h1 h1'
    go_enter Tryz.func49, Tryz.ntmps49
    go_wp2_with fail
    refine (VA.out _).mono ?_
    rintro e w1 ⟨rfl, rfl⟩
    go_wp2
    go_ret2
    exact ⟨rfl, Below.refl _ _⟩
set_option maxRecDepth 100000 in
set_option maxHeartbeats 4000000 in
theorem cmpR_any (s t : ByteArray) (hs : s.size ≤ 1099511627776) (ht : t.size ≤ 1099511627776) (w : World) :
    Calls Tryz.prog 53 #[.string s, .string t] w fun e w' => e = .returned (.int .i64 (cmpB s t)) ∧ Below w.heap.size w w' := by
  have va := fun W => valid_any s hs W
  have vb := fun W => valid_any t ht W
  unfold cmpB
  by_cases h1 : validB s = true
  · by_cases h2 : validB t = true
    · rw [h1] at va
      rw [h2] at vb
      obtain ⟨f1, g1⟩ := text_valid h1
      obtain ⟨f2, g2⟩ := text_valid h2
      rw [h1, h2, Bool.true_and, if_pos rfl]
      obtain ⟨x, hx⟩ : ∃ x, numB s = x := ⟨_, rfl⟩
      obtain ⟨y, hy⟩ : ∃ x, numB t = x := ⟨_, rfl⟩
      rw [hx] at f1 g1 ⊢
      rw [hy] at f2 g2 ⊢
      have d1 := fun W => digits_any x (fits_size f1) W
      have d2 := fun W => digits_any y (fits_size f2) W
      rw [← g1] at d1
      rw [← g2] at d2
      have l1 := fits_length f1
      have l2 := fits_length f2
      have co1 := fun W a1 k1 a2 k2 (q1 : HoldI W a1 k1 (digs x.natAbs)) (q2 : HoldI W a2 k2 (digs y.natAbs)) => order_any x.natAbs y.natAbs a1 a2 k1 k2 _ _ W q1 q2 rfl rfl
      have co2 := fun W a1 k1 a2 k2 (q1 : HoldI W a1 k1 (digs x.natAbs)) (q2 : HoldI W a2 k2 (digs y.natAbs)) => order_any y.natAbs x.natAbs a2 a1 k2 k1 _ _ W q2 q1 rfl rfl
      obtain ⟨r, hr⟩ : ∃ r, (if x < y then (-1 : Int) else if y < x then 1 else 0) = r := ⟨_, rfl⟩
      rw [hr]
      obtain ⟨m, hm⟩ : ∃ m, (digs x.natAbs).length = m := ⟨_, rfl⟩
      obtain ⟨n, hn⟩ : ∃ m, (digs y.natAbs).length = m := ⟨_, rfl⟩
      rw [hm] at d1 co1 co2
      rw [hn] at d2 co1 co2
      by_cases hx0 : x < 0
      · by_cases hy0 : y < 0
        · have DX : decide (x < 0) = true := decide_eq_true hx0
          have DY : decide (y < 0) = true := decide_eq_true hy0
          have hrr : cmpI y.natAbs x.natAbs = r := by rw [← hr]; unfold cmpI; split <;> (try split) <;> (try split) <;> (try split) <;> omega
          have HRR := Lib.hid hrr
          rw [DX] at d1
          rw [DY] at d2
          have VA := Lib.hid va; have VB := Lib.hid vb; have D1 := Lib.hid d1; have D2 := Lib.hid d2; have CO1 := Lib.hid co1; have CO2 := Lib.hid co2
          clear hr hrr DX DY hx0 hy0 va vb d1 d2 co1 co2 hm hn h1 h2 g1 g2 hx hy f1 f2 l1 l2
          go_enter Tryz.func53, Tryz.ntmps53
          go_wp2_with fail
          refine (VA.out _).mono ?_
          rintro e w1 ⟨rfl, rfl⟩
          go_wp2_with fail
          refine (VB.out _).mono ?_
          rintro e w2 ⟨rfl, rfl⟩
          go_wp2_with fail
          refine (D1.out _).mono ?_
          rintro e w3 ⟨a1, k1, rfl, q1, b3⟩
          go_wp2_with fail
          refine (D2.out _).mono ?_
          rintro e w4 ⟨a2, k2, rfl, q2, b4⟩
          have B4 := Lib.hid (b3.trans (b4.mono b3.size))
          have C := Lib.hid (CO2.out w4 a1 k1 a2 k2 (q1.below b4 (Nat.le_refl _)) q2)
          clear q1 q2 b3 b4 CO1 CO2
          go_wp2_with fail
          refine C.out.mono ?_
          rintro e w5 ⟨rfl, k, rfl⟩
          go_wp2
          go_ret
          exact ⟨ret_w HRR.out, below_drewN B4.out k⟩
        · have DX : decide (x < 0) = true := decide_eq_true hx0
          have DY : decide (y < 0) = false := decide_eq_false hy0
          have hrr : r = -1 := by rw [← hr]; rw [if_pos (by omega)]
          have HRR := Lib.hid hrr
          rw [DX] at d1
          rw [DY] at d2
          have VA := Lib.hid va; have VB := Lib.hid vb; have D1 := Lib.hid d1; have D2 := Lib.hid d2; have CO1 := Lib.hid co1; have CO2 := Lib.hid co2
          clear hr hrr DX DY hx0 hy0 va vb d1 d2 co1 co2 hm hn h1 h2 g1 g2 hx hy f1 f2 l1 l2
          go_enter Tryz.func53, Tryz.ntmps53
          go_wp2_with fail
          refine (VA.out _).mono ?_
          rintro e w1 ⟨rfl, rfl⟩
          go_wp2_with fail
          refine (VB.out _).mono ?_
          rintro e w2 ⟨rfl, rfl⟩
          go_wp2_with fail
          refine (D1.out _).mono ?_
          rintro e w3 ⟨a1, k1, rfl, q1, b3⟩
          go_wp2_with fail
          refine (D2.out _).mono ?_
          rintro e w4 ⟨a2, k2, rfl, q2, b4⟩
          have B4 := Lib.hid (b3.trans (b4.mono b3.size))
          clear q1 q2 b3 b4 CO1 CO2
          go_wp2_with fail
          go_ret
          exact ⟨ret_w HRR.out.symm, B4.out⟩
      · by_cases hy0 : y < 0
        · have DX : decide (x < 0) = false := decide_eq_false hx0
          have DY : decide (y < 0) = true := decide_eq_true hy0
          have hrr : r = 1 := by rw [← hr]; rw [if_neg (by omega), if_pos (by omega)]
          have HRR := Lib.hid hrr
          rw [DX] at d1
          rw [DY] at d2
          have VA := Lib.hid va; have VB := Lib.hid vb; have D1 := Lib.hid d1; have D2 := Lib.hid d2; have CO1 := Lib.hid co1; have CO2 := Lib.hid co2
          clear hr hrr DX DY hx0 hy0 va vb d1 d2 co1 co2 hm hn h1 h2 g1 g2 hx hy f1 f2 l1 l2
          go_enter Tryz.func53, Tryz.ntmps53
          go_wp2_with fail
          refine (VA.out _).mono ?_
          rintro e w1 ⟨rfl, rfl⟩
          go_wp2_with fail
          refine (VB.out _).mono ?_
          rintro e w2 ⟨rfl, rfl⟩
          go_wp2_with fail
          refine (D1.out _).mono ?_
          rintro e w3 ⟨a1, k1, rfl, q1, b3⟩
          go_wp2_with fail
          refine (D2.out _).mono ?_
          rintro e w4 ⟨a2, k2, rfl, q2, b4⟩
          have B4 := Lib.hid (b3.trans (b4.mono b3.size))
          clear q1 q2 b3 b4 CO1 CO2
          go_wp2_with fail
          go_ret
          exact ⟨ret_w HRR.out.symm, B4.out⟩
        · have DX : decide (x < 0) = false := decide_eq_false hx0
          have DY : decide (y < 0) = false := decide_eq_false hy0
          have hrr : cmpI x.natAbs y.natAbs = r := by rw [← hr]; unfold cmpI; split <;> (try split) <;> (try split) <;> (try split) <;> omega
          have HRR := Lib.hid hrr
          rw [DX] at d1
          rw [DY] at d2
          have VA := Lib.hid va; have VB := Lib.hid vb; have D1 := Lib.hid d1; have D2 := Lib.hid d2; have CO1 := Lib.hid co1; have CO2 := Lib.hid co2
          clear hr hrr DX DY hx0 hy0 va vb d1 d2 co1 co2 hm hn h1 h2 g1 g2 hx hy f1 f2 l1 l2
          go_enter Tryz.func53, Tryz.ntmps53
          go_wp2_with fail
          refine (VA.out _).mono ?_
          rintro e w1 ⟨rfl, rfl⟩
          go_wp2_with fail
          refine (VB.out _).mono ?_
          rintro e w2 ⟨rfl, rfl⟩
          go_wp2_with fail
          refine (D1.out _).mono ?_
          rintro e w3 ⟨a1, k1, rfl, q1, b3⟩
          go_wp2_with fail
          refine (D2.out _).mono ?_
          rintro e w4 ⟨a2, k2, rfl, q2, b4⟩
          have B4 := Lib.hid (b3.trans (b4.mono b3.size))
          have C := Lib.hid (CO1.out w4 a1 k1 a2 k2 (q1.below b4 (Nat.le_refl _)) q2)
          clear q1 q2 b3 b4 CO1 CO2
          go_wp2_with fail
          refine C.out.mono ?_
          rintro e w5 ⟨rfl, k, rfl⟩
          go_wp2
          go_ret
          exact ⟨ret_w HRR.out, below_drewN B4.out k⟩
    · have h2' : validB t = false := by simpa using h2
      rw [h1] at va
      rw [h2'] at vb
      rw [h1, h2', Bool.and_false, if_neg (by simp)]
      have VA := Lib.hid va; have VB := Lib.hid vb
      clear va vb h1 h2 h2'
      go_enter Tryz.func53, Tryz.ntmps53
      go_wp2_with fail
      refine (VA.out _).mono ?_
      rintro e w1 ⟨rfl, rfl⟩
      go_wp2_with fail
      refine (VB.out _).mono ?_
      rintro e w2 ⟨rfl, rfl⟩
      go_wp2
      go_ret
      exact ⟨rfl, Below.refl _ _⟩
  · have h1' : validB s = false := by simpa using h1
    rw [h1'] at va
    rw [h1', Bool.false_and, if_neg (by simp)]
    have VA := Lib.hid va
    clear va vb h1 h1'
    go_enter Tryz.func53, Tryz.ntmps53
    go_wp2_with fail
    refine (VA.out _).mono ?_
    rintro e w1 ⟨rfl, rfl⟩
    go_wp2
    go_ret
    exact ⟨rfl, Below.refl _ _⟩
end Go.Proofs.YtlcibnmcannapaaGreatDoor
