/-
  The contracts of the reference's Left, Root, part, Proof and Extension.
-/
import Derived.Test.YtoaaelnmbpmbeaaDoorRefHash
import Derived.Test.YtoaaelnmbpmbeaaDoorHeads
namespace Go.Proofs.YtoaaelnmbpmbeaaDoor
open Go Go.Proofs Go.RowKit Go.Lib

def Sm (l : List ByteArray) : Prop := ∀ s ∈ l, s.size ≤ 1000000
theorem Sm.take {l : List ByteArray} (h : Sm l) (k : Nat) : Sm (l.take k) := fun s hs => h s (List.mem_of_mem_take hs)
theorem Sm.drop {l : List ByteArray} (h : Sm l) (k : Nat) : Sm (l.drop k) := fun s hs => h s (List.mem_of_mem_drop hs)

set_option maxHeartbeats 400000 in
theorem leftR_any (n : Nat) (h2 : 2 ≤ n) (hn : n ≤ 9223372036854775807) (w : World) :
    Calls Tryd.prog 44 #[.int .i64 (n : Nat)] w fun e w' => e = .returned (.int .i64 ((splitN n : Nat) : Int)) ∧ w = w' := by
  go_enter Tryd.func44, Tryd.ntmps44
  go_wp2_with fail
  go_loop [3] (fun v => ∃ (e : Nat), v = .int .i64 ((2 ^ e : Nat) : Int) ∧ Hid (2 ^ e < n)) (fun v => n - (RowKit.intOf v).toNat)
  case atStart => exact ⟨0, rfl, (by show 2 ^ 0 < n; omega)⟩
  case round =>
    obtain ⟨e, rfl, he⟩ := hrel
    have h0 := Nat.one_le_two_pow (n := e)
    have hlt := he.out
    have hd : 2 ^ (e + 1) = 2 * 2 ^ e := by rw [Nat.pow_succ]; omega
    have hs := splitN_of_pow (n := n) (e := e)
    obtain ⟨k, hk⟩ : ∃ k, 2 ^ e = k := ⟨_, rfl⟩
    rw [hk] at h0 hlt hd hs ⊢
    have HD := Lib.hid hd; have HS := Lib.hid hs
    clear hd hs he
    by_cases hc : k < n - k
    · have hc2 : (k : Int) < (n : Int) - (k : Int) := by omega
      go_wp2
      go_round
      case rel => exact ⟨e + 1, by rw [HD.out]; go_num, (by rw [HD.out]; omega : 2 ^ (e + 1) < n)⟩
      case measure => simp [RowKit.intOf]; omega
    · have hc2 : ¬ (k : Int) < (n : Int) - (k : Int) := by omega
      have hfin := HS.out hlt (by omega)
      have HF := Lib.hid hfin
      clear hfin
      go_wp2
      go_ret
      exact ⟨ret_w (nat_cast HF.out), rfl⟩

theorem rootR_nil (ad : Option Addr) (cap : Nat) (w : World) :
    Calls Tryd.prog 28 #[.slice ad 0 cap] w fun e w' => e = .returned (.string (rootF [])) ∧ Below w.heap.size w w' := by
  have c := sumR_any ByteArray.empty (by decide) w
  rw [← rootF_nil] at c
  have C := Lib.hid (show Calls Tryd.prog 14 #[.string { data := #[] }] w _ from c)
  clear c
  go_enter Tryd.func28, Tryd.ntmps28
  go_wp2_with fail
  refine C.out.mono ?_
  rintro e w' ⟨rfl, hb⟩
  go_wp2
  go_ret
  exact ⟨rfl, hb⟩

set_option maxRecDepth 100000 in
set_option maxHeartbeats 2000000 in
theorem rootR_big : ∀ (N : Nat) (l : List ByteArray) (b o cap : Nat) (w : World), l.length ≤ N → 1 ≤ l.length → l.length ≤ cap → l.length ≤ 1099511627776 → b < w.heap.size → StrsAt w b o l → Sm l →
    Calls Tryd.prog 28 #[.slice (some ⟨b, o, none⟩) l.length cap] w fun e w' => e = .returned (.string (rootF l)) ∧ Below w.heap.size w w'
  | 0, l, _, _, _, _, hN, h1, _, _, _, _, _ => by omega
  | N + 1, l, b, o, cap, w, hN, h1, hc, hc2, hb, hS, hM => by
    by_cases h2 : l.length = 1
    · obtain ⟨a, rfl⟩ := List.length_eq_one_iff.1 h2
      have hcell : w.cell? ⟨b, o, none⟩ = some (.string a) := hS 0 (by simp)
      have C := Lib.hid (leafR_any a (hM a (by simp)) w)
      have hr := Lib.hid (rootF_one a)
      clear h2 hN h1 hS hM
      go_enter Tryd.func28, Tryd.ntmps28
      go_wp2_with fail
      refine C.out.mono ?_
      rintro e w' ⟨rfl, hb⟩
      go_wp2
      go_ret
      exact ⟨ret_str hr.out.symm, hb⟩
    · have hk := splitN_lt (n := l.length) (by omega)
      have hp := splitN_pos l.length
      have csp := leftR_any l.length (by omega) (by omega)
      have hroot := rootF_big (l := l) (by omega)
      have c1 := fun W (h : Below w.heap.size w W) => grown_call (rootR_big N (l.take (splitN l.length)) b o cap W (by simp; omega) (by simp; omega) (by simp; omega) (by simp; omega) (Nat.lt_of_lt_of_le hb h.size) ((hS.below h hb).take _) (hM.take _)) h h.size
      have c2 := fun W (h : Below w.heap.size w W) => grown_call (rootR_big N (l.drop (splitN l.length)) b (o + splitN l.length) (cap - splitN l.length) W (by simp; omega) (by simp; omega) (by simp; omega) (by simp; omega) (Nat.lt_of_lt_of_le hb h.size) ((hS.below h hb).drop _) (hM.drop _)) h h.size
      rw [show (l.take (splitN l.length)).length = splitN l.length by simp; omega] at c1
      rw [show (l.drop (splitN l.length)).length = l.length - splitN l.length by simp] at c2
      have s1 := rootF_size (l.take (splitN l.length))
      have s2 := rootF_size (l.drop (splitN l.length))
      obtain ⟨r1, e1⟩ : ∃ r, rootF (l.take (splitN l.length)) = r := ⟨_, rfl⟩
      obtain ⟨r2, e2⟩ : ∃ r, rootF (l.drop (splitN l.length)) = r := ⟨_, rfl⟩
      rw [e1] at c1 s1 hroot
      rw [e2] at c2 s2 hroot
      have c3 := fun W (h : Below w.heap.size w W) => grown_call (nodeR_any r1 r2 (by omega) (by omega) W) h h.size
      rw [← hroot] at c3
      obtain ⟨k, ek⟩ : ∃ k, splitN l.length = k := ⟨_, rfl⟩
      rw [ek] at c1 c2 csp hk hp
      obtain ⟨n, en⟩ : ∃ n, l.length = n := ⟨_, rfl⟩
      rw [en] at c2 csp hk hc h1 h2 ⊢
      have hsl1 := fun w => slice_lo b o n cap k (by omega) w
      have hsl2 := fun w => slice_hi b o n cap k (by omega) (by omega) w
      have C1 := Lib.hid c1; have C2 := Lib.hid c2; have C3 := Lib.hid c3; have CS := Lib.hid csp
      have hz0 : ((n : Int) == 0) = false := by rw [beq_eq_false_iff_ne]; omega
      have hz1 : ((n : Int) == 1) = false := by rw [beq_eq_false_iff_ne]; omega
      clear c1 c2 c3 csp e1 e2 ek en hroot hS hM s1 s2 hN h2
      go_enter Tryd.func28, Tryd.ntmps28
      go_wp2_with fail
      refine (CS.out _).mono ?_
      rintro e w' ⟨rfl, rfl⟩
      go_wp2_with fail
      go_region_with (first | (go_at_call 18; (with_reducible refine (C3.out _ ?_).mono ?_); exact ⟨hb2.os, hb2.tape, hb2.output, hb2.size, hb2.block⟩; rintro e W3 ⟨rfl, hb3⟩) | (go_at_call 28; (with_reducible refine (C1.out _ ?_).mono ?_); exact ⟨rfl, rfl, rfl, Nat.le_refl _, fun _ _ => rfl⟩; rintro e W1 ⟨rfl, hb1⟩) | (go_at_call 28; (with_reducible refine (C2.out _ ?_).mono ?_); exact ⟨hb1.os, hb1.tape, hb1.output, hb1.size, hb1.block⟩; rintro e W2 ⟨rfl, hb2⟩))
      all_goals (go_wp2; go_ret; exact ⟨rfl, hb3.os, hb3.tape, hb3.output, hb3.size, hb3.block⟩)

theorem rootR_any (l : List ByteArray) (b o cap : Nat) (w : World) (hc : l.length ≤ cap) (hc2 : l.length ≤ 1099511627776) (hb : b < w.heap.size) (hS : StrsAt w b o l) (hM : Sm l) :
    Calls Tryd.prog 28 #[.slice (some ⟨b, o, none⟩) l.length cap] w fun e w' => e = .returned (.string (rootF l)) ∧ Below w.heap.size w w' := by
  by_cases h : l = []
  · subst h; exact rootR_nil _ cap w
  · exact rootR_big l.length l b o cap w (Nat.le_refl _) (by cases l; exact absurd rfl h; simp) hc hc2 hb hS hM

set_option maxRecDepth 100000 in
set_option maxHeartbeats 4000000 in
theorem partR_any : ∀ (N : Nat) (l : List ByteArray) (m : Nat) (wh : Bool) (b o cap : Nat) (w : World), l.length ≤ N → l.length ≤ 1000000 → 1 ≤ m → m ≤ l.length → l.length ≤ cap → l.length ≤ 1099511627776 → b < w.heap.size → StrsAt w b o l → Sm l →
    Calls Tryd.prog 46 #[.slice (some ⟨b, o, none⟩) l.length cap, .int .i64 (m : Nat), .bool wh] w (ListPost w.heap.size w (partF l m wh)) := by
  intro N
  induction N with
  | zero => intro l m wh b o cap w hN h6 h1 hm; omega
  | succ N ih =>
    intro l m wh b o cap w hN h6 h1 hm hc hc2 hb hS hM
    by_cases hml : m = l.length
    · cases wh with
      | true =>
        have hp : partF l m true = [] := by rw [hml]; exact partF_whole
        have hz : ((m : Int) == (l.length : Int)) = true := by rw [beq_iff_eq]; omega
        have HP := Lib.hid hp
        clear hp ih hS hM hml
        go_enter Tryd.func46, Tryd.ntmps46
        go_wp2_with fail
        go_ret
        exact ⟨_, rfl, by rw [HP.out]; exact OwnStrs.nil _ _, Below.refl _ _⟩
      | false =>
        have hp : partF l m false = [rootF l] := by rw [hml]; exact partF_self
        have hz : ((m : Int) == (l.length : Int)) = true := by rw [beq_iff_eq]; omega
        have c := rootR_any l b o cap w hc hc2 hb hS hM
        obtain ⟨r, er⟩ : ∃ r, rootF l = r := ⟨_, rfl⟩
        rw [er] at hp c
        have HP := Lib.hid hp; have C := Lib.hid c
        clear hp c er ih hS hM hml
        go_enter Tryd.func46, Tryd.ntmps46
        go_wp2_with fail
        refine C.out.mono ?_
        rintro e W1 ⟨rfl, hb1⟩
        go_wp2
        go_ret
        exact ⟨_, rfl, by rw [HP.out]; exact own_one W1 _ r hb1.size, hb1.alloc hb1.size _⟩
    · have hk := splitN_lt (n := l.length) (by omega)
      have hk1 := splitN_pos l.length
      have csp := leftR_any l.length (by omega) (by omega)
      have hs1 : (l.take (splitN l.length)).length = splitN l.length := by simp; omega
      have hs2 : (l.drop (splitN l.length)).length = l.length - splitN l.length := by simp
      have hz : ((m : Int) == (l.length : Int)) = false := by rw [beq_eq_false_iff_ne]; omega
      by_cases hik : m ≤ splitN l.length
      · have hpr := partF_lo (l := l) h1 (by omega) hik wh
        have hlen := partF_length 40 (l.take (splitN l.length)) m wh (by rw [hs1]; omega)
        have c1 := fun W (h : Below w.heap.size w W) => list_grow (ih (l.take (splitN l.length)) m wh b o cap W (by omega) (by omega) h1 (by omega) (by omega) (by omega) (Nat.lt_of_lt_of_le hb h.size) ((hS.below h hb).take _) (hM.take _)) h h.size
        have c2 := fun W (h : Below w.heap.size w W) => rootR_any (l.drop (splitN l.length)) b (o + splitN l.length) (cap - splitN l.length) W (by omega) (by omega) (Nat.lt_of_lt_of_le hb h.size) ((hS.below h hb).drop _) (hM.drop _)
        rw [hs1] at c1
        rw [hs2] at c2
        obtain ⟨p1, ep1⟩ : ∃ p, partF (l.take (splitN l.length)) m wh = p := ⟨_, rfl⟩
        obtain ⟨r, er⟩ : ∃ r, rootF (l.drop (splitN l.length)) = r := ⟨_, rfl⟩
        rw [ep1] at hpr hlen c1
        rw [er] at hpr c2
        have hl1 : p1.length ≤ 1000000 := by omega
        obtain ⟨k, ek⟩ : ∃ k, splitN l.length = k := ⟨_, rfl⟩
        obtain ⟨n, en⟩ : ∃ n, l.length = n := ⟨_, rfl⟩
        rw [ek] at c1 c2 csp hk hk1 hik
        rw [en] at c2 csp hk hc hz hm hN h6 hml ⊢
        have hik2 : (m : Int) ≤ (k : Int) := by omega
        have hsl1 := fun w => slice_lo b o n cap k (by omega) w
        have hsl2 := fun w => slice_hi b o n cap k (by omega) (by omega) w
        have C1 := Lib.hid c1; have C2 := Lib.hid c2; have CS := Lib.hid csp; have HPR := Lib.hid hpr
        clear c1 c2 csp hpr ep1 er ek en hS hM hs1 hs2 hN ih hlen hml
        go_enter Tryd.func46, Tryd.ntmps46
        go_wp2_with fail
        refine (CS.out _).mono ?_
        rintro e w' ⟨rfl, rfl⟩
        go_wp2_with fail
        go_region_law (first | (refine step_push (w0 := w) rfl _ _ rfl w.heap.size v1 p1 rfl (own_heap (own_heap ho1 (fun k hk => hb2.block k hk)) (fun k hk => Below.heap_alloc W2 _ k hk)) (below_same (hb2'.alloc hb2'.size _) rfl rfl rfl rfl) (Nat.le_trans hb2'.size (by simp)) _ _ r rfl (new_cell W2 r _) hl1 ?_; intro v3 W3 ho3 hb3) | (go_simp; go_at_call 46; (with_reducible refine (C1.out _ ?_).mono ?_); exact ⟨rfl, rfl, rfl, Nat.le_refl _, fun _ _ => rfl⟩; rintro e W1 ⟨v1, rfl, ho1, hb1⟩) | (go_simp; go_at_call 28; (with_reducible refine (C2.out _ ?_).mono ?_); exact ⟨hb1.os, hb1.tape, hb1.output, hb1.size, hb1.block⟩; rintro e W2 ⟨rfl, hb2⟩; have hb2' := Below.trans (show Below w.heap.size w _ from ⟨hb1.os, hb1.tape, hb1.output, hb1.size, hb1.block⟩) (hb2.mono hb1.size)))
        all_goals (go_wp2; go_ret; exact ⟨_, rfl, by rw [HPR.out]; exact ho3, hb3⟩)
      · have hpr := partF_hi (l := l) h1 (by omega) hik wh
        have hlen := partF_length 40 (l.drop (splitN l.length)) (m - splitN l.length) false (by rw [hs2]; omega)
        have c1 := fun W (h : Below w.heap.size w W) => list_grow (ih (l.drop (splitN l.length)) (m - splitN l.length) false b (o + splitN l.length) (cap - splitN l.length) W (by omega) (by omega) (by omega) (by omega) (by omega) (by omega) (Nat.lt_of_lt_of_le hb h.size) ((hS.below h hb).drop _) (hM.drop _)) h h.size
        have c2 := fun W (h : Below w.heap.size w W) => rootR_any (l.take (splitN l.length)) b o cap W (by omega) (by omega) (Nat.lt_of_lt_of_le hb h.size) ((hS.below h hb).take _) (hM.take _)
        rw [hs2, show ((m - splitN l.length : Nat) : Int) = (m : Int) - (splitN l.length : Int) by omega] at c1
        rw [hs1] at c2
        obtain ⟨p1, ep1⟩ : ∃ p, partF (l.drop (splitN l.length)) (m - splitN l.length) false = p := ⟨_, rfl⟩
        obtain ⟨r, er⟩ : ∃ r, rootF (l.take (splitN l.length)) = r := ⟨_, rfl⟩
        rw [ep1] at hpr hlen c1
        rw [er] at hpr c2
        have hl1 : p1.length ≤ 1000000 := by omega
        obtain ⟨k, ek⟩ : ∃ k, splitN l.length = k := ⟨_, rfl⟩
        obtain ⟨n, en⟩ : ∃ n, l.length = n := ⟨_, rfl⟩
        rw [ek] at c1 c2 csp hk hk1 hik
        rw [en] at c1 csp hk hc hz hm hN h6 hml ⊢
        have hik2 : ¬ (m : Int) ≤ (k : Int) := by omega
        have hwi : IntKind.i64.wrap ((m : Int) - (k : Int)) = (m : Int) - (k : Int) := IntWalk.i64_in _ (by omega)
        have hsl1 := fun w => slice_lo b o n cap k (by omega) w
        have hsl2 := fun w => slice_hi b o n cap k (by omega) (by omega) w
        have C1 := Lib.hid c1; have C2 := Lib.hid c2; have CS := Lib.hid csp; have HPR := Lib.hid hpr
        clear c1 c2 csp hpr ep1 er ek en hS hM hs1 hs2 hN ih hlen hml
        go_enter Tryd.func46, Tryd.ntmps46
        go_wp2_with fail
        refine (CS.out _).mono ?_
        rintro e w' ⟨rfl, rfl⟩
        go_wp2_with fail
        go_region_law (first | (refine step_push (w0 := w) rfl _ _ rfl w.heap.size v1 p1 rfl (own_heap (own_heap ho1 (fun k hk => hb2.block k hk)) (fun k hk => Below.heap_alloc W2 _ k hk)) (below_same (hb2'.alloc hb2'.size _) rfl rfl rfl rfl) (Nat.le_trans hb2'.size (by simp)) _ _ r rfl (new_cell W2 r _) hl1 ?_; intro v3 W3 ho3 hb3) | (go_simp; go_at_call 46; (with_reducible refine (C1.out _ ?_).mono ?_); exact ⟨rfl, rfl, rfl, Nat.le_refl _, fun _ _ => rfl⟩; rintro e W1 ⟨v1, rfl, ho1, hb1⟩) | (go_simp; go_at_call 28; (with_reducible refine (C2.out _ ?_).mono ?_); exact ⟨hb1.os, hb1.tape, hb1.output, hb1.size, hb1.block⟩; rintro e W2 ⟨rfl, hb2⟩; have hb2' := Below.trans (show Below w.heap.size w _ from ⟨hb1.os, hb1.tape, hb1.output, hb1.size, hb1.block⟩) (hb2.mono hb1.size)))
        all_goals (go_wp2; go_ret; exact ⟨_, rfl, by rw [HPR.out]; exact ho3, hb3⟩)

set_option maxHeartbeats 1000000 in
theorem extR_bad (ad : Option Addr) (n cap : Nat) (i : Int) (h : i < 0 ∨ (n : Int) < i) (w : World) :
    Calls Tryd.prog 25 #[.slice ad n cap, .int .i64 i] w fun e w' => e = .returned (.tuple #[.slice none 0 0, .int .i64 2]) ∧ w = w' := by
  by_cases h0 : i < 0
  · clear h
    go_enter Tryd.func25, Tryd.ntmps25
    go_wp2_with fail
    go_ret2
    exact ⟨rfl, rfl⟩
  · have h1 : (n : Int) < i := by omega
    clear h
    go_enter Tryd.func25, Tryd.ntmps25
    go_wp2_with fail
    go_ret2
    exact ⟨rfl, rfl⟩

set_option maxHeartbeats 1000000 in
theorem extR_zero (ad : Option Addr) (n cap : Nat) (w : World) :
    Calls Tryd.prog 25 #[.slice ad n cap, .int .i64 0] w (ErrPost w []) := by
  have h1 : ¬ (n : Int) < 0 := by omega
  go_enter Tryd.func25, Tryd.ntmps25
  go_wp2_with fail
  go_ret2
  exact ⟨_, rfl, OwnStrs.nil _ _, Below.refl _ _⟩

set_option maxHeartbeats 1000000 in
theorem extR_ok (l : List ByteArray) (m : Nat) (ad : Option Addr) (cap : Nat) (w : World) (h6 : l.length ≤ 1000000) (hm1 : 1 ≤ m) (hm : m ≤ l.length) (hH : Holds w ad cap l) (hM : Sm l) :
    Calls Tryd.prog 25 #[.slice ad l.length cap, .int .i64 (m : Nat)] w (ErrPost w (partF l m true)) := by
  obtain ⟨b, o, rfl, hlt, hS⟩ := hH.at (by omega)
  have c := partR_any l.length l m true b o cap w (Nat.le_refl _) h6 hm1 hm hH.1 hH.2.1 hlt hS hM
  have h1 : ¬ (l.length : Int) < (m : Int) := by omega
  have h2 : ((m : Int) == 0) = false := by rw [beq_eq_false_iff_ne]; omega
  have C := Lib.hid c
  clear c hS hM hH hm
  go_enter Tryd.func25, Tryd.ntmps25
  go_wp2_with fail
  refine C.out.mono ?_
  rintro e W1 ⟨v, rfl, ho, hb⟩
  go_wp2
  go_ret2
  exact ⟨_, rfl, ho, hb⟩


set_option maxHeartbeats 1000000 in
theorem proofR_bad (ad : Option Addr) (n cap : Nat) (i : Int) (h : i < 0 ∨ (n : Int) ≤ i) (w : World) :
    Calls Tryd.prog 23 #[.slice ad n cap, .int .i64 i] w fun e w' => e = .returned (.tuple #[.slice none 0 0, .int .i64 2]) ∧ w = w' := by
  by_cases h0 : i < 0
  · clear h
    go_enter Tryd.func23, Tryd.ntmps23
    go_wp2_with fail
    go_ret2
    exact ⟨rfl, rfl⟩
  · have h1 : (n : Int) ≤ i := by omega
    have h2 : ¬ i < (n : Int) := by omega
    clear h
    go_enter Tryd.func23, Tryd.ntmps23
    go_wp2_with fail
    go_ret2
    exact ⟨rfl, rfl⟩


end Go.Proofs.YtoaaelnmbpmbeaaDoor
