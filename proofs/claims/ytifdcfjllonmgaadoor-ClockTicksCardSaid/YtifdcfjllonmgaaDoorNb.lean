/-
  Layer 8, the program: areIn, Valid.
-/
import Derived.Test.YtifdcfjllonmgaaDoorNa
import Derived.Test.YtifdcfjllonmgaaDoorHo0
namespace Go.Proofs.YtifdcfjllonmgaaDoor
open Go Go.Proofs Go.RowKit Go.Lib

set_option maxHeartbeats 1000000 in
theorem areIn1_u (v lo hi : Int) (A B : Nat) (w : World) (hA : w.cell? ⟨A, 0, none⟩ = some (.int .i64 lo)) (hB : w.cell? ⟨B, 0, none⟩ = some (.int .i64 hi)) :
    Calls Tryd.prog 64 #[.int .i64 v, .pointer (some ⟨A, 0, none⟩), .pointer (some ⟨B, 0, none⟩)] w fun e w' => e = .returned (.bool (!inB v lo hi)) ∧ w' = w := by
  have HC := Lib.hid (fun W => isIn_u v lo hi W)
  generalize inB v lo hi = b at *
  go_enter Tryd.func64, Tryd.ntmps64
  go_wp2_with fail
  refine (HC.out _).mono ?_
  rintro e z ⟨rfl, rfl⟩
  go_wp2_with fail
  go_ret
  exact ⟨rfl, rfl⟩
set_option maxRecDepth 100000 in
set_option maxHeartbeats 4000000 in
theorem indexInt_u (p : Int → Bool) (F : Nat) (lb : Array Value) (n : Nat) (ad : Option Addr) (c : Nat) (l : List Int) (hl : l.length ≤ maxLen) (w : World) (hn : n ≤ w.heap.size) (hI : RL KI w ad l)
    (eg : ∀ args W, (callFunc F args).run Tryd.prog W = .ok (.enter F args) W)
    (HF : ∀ x W, Below n w W → Calls Tryd.prog F (#[.int .i64 x] ++ lb) W fun e W' => e = .returned (.bool (p x)) ∧ W' = W) :
    Calls Tryd.prog 78 #[.slice ad l.length c, .func (.func F) #[] lb] w fun e w' => e = .returned (.int .i64 (idxN p l 0)) ∧ Below n w w' := by
  unfold maxLen at hl
  have HC := Lib.hid (fun k hk => hI.int k hk)
  have HST := Lib.hid (fun k h => idxN_step p (l := l) (k := k) h)
  have HN := Lib.hid (show idxN p (l.drop l.length) l.length = -1 by rw [List.drop_length]; rfl)
  have H0 := Lib.hid (show idxN p l 0 = idxN p (l.drop 0) 0 from rfl)
  have HF := Lib.hid HF
  generalize idxN p l 0 = O at *
  clear hI
  go_enter Tryd.func78, Tryd.ntmps78
  go_wp2_with fail
  go_loopw [8] (fun i wr => ∃ k : Nat, k ≤ l.length ∧ i = .int .i64 k ∧ Hid (O = idxN p (l.drop k) k) ∧ Hid (Below n w wr) ∧ wr = w) (fun i _ => l.length - (RowKit.intOf i).toNat)
  case atStart => exact ⟨0, Nat.zero_le _, rfl, H0, Lib.hid (Below.refl _ _), rfl⟩
  case round =>
    obtain ⟨k, hk, rfl, HK, HB, hwr⟩ := hrel
    subst hwr
    by_cases hlt : k < l.length
    · have hki : (k : Int) < (l.length : Int) := by omega
      obtain ⟨b, o, rfl, _, e2⟩ := HC.out k hlt
      have hik := fun W => at_int8 b o l.length c k hlt W
      have c0 := e2 wr (Below.refl _ _)
      have hst := HST.out k hlt
      have HLT := Lib.hid hlt
      generalize l[k]'hlt = x at *
      have CB := Lib.hid (fun W b => HF.out x W b)
      cases hb : p x with
      | true =>
        have HO := Lib.hid (show O = (k : Int) by rw [HK.out, hst, hb]; rfl)
        rw [hb] at CB
        clear hst hb e2 hlt
        go_wp2_with fail
        refine (CB.out _ HB.out).mono ?_
        rintro e z ⟨rfl, rfl⟩
        clear c0
        go_wp2_with fail
        go_ret
        exact ⟨by rw [HO.out]; rfl, HB.out⟩
      | false =>
        have HO := Lib.hid (show O = idxN p (l.drop (k + 1)) (k + 1) by rw [HK.out, hst, hb]; rfl)
        rw [hb] at CB
        clear hst hb e2 hlt
        go_wp2_with fail
        refine (CB.out _ HB.out).mono ?_
        rintro e z ⟨rfl, rfl⟩
        clear c0
        go_wp2_with fail
        go_roundw
        case rel => exact ⟨k + 1, HLT.out, by go_num, HO, HB, by trivial⟩
        case measure => have := HLT.out; simp [RowKit.intOf]; omega
    · have hke : k = l.length := by omega
      have HO := Lib.hid (show O = -1 by rw [HK.out, hke, HN.out])
      have hki : ¬ (k : Int) < (l.length : Int) := by omega
      clear hke hlt
      go_wp2_with fail
      go_ret
      exact ⟨by rw [HO.out]; rfl, HB.out⟩
set_option maxRecDepth 100000 in
set_option maxHeartbeats 4000000 in
theorem containsInt_u (p : Int → Bool) (F : Nat) (lb : Array Value) (n : Nat) (ad : Option Addr) (c : Nat) (l : List Int) (hl : l.length ≤ maxLen) (w : World) (hn : n ≤ w.heap.size) (hI : RL KI w ad l)
    (eg : ∀ args W, (callFunc F args).run Tryd.prog W = .ok (.enter F args) W)
    (HF : ∀ x W, Below n w W → Calls Tryd.prog F (#[.int .i64 x] ++ lb) W fun e W' => e = .returned (.bool (p x)) ∧ W' = W) :
    Calls Tryd.prog 63 #[.slice ad l.length c, .func (.func F) #[] lb] w fun e w' => e = .returned (.bool (l.any p)) ∧ Below n w w' := by
  have HC := Lib.hid (indexInt_u p F lb n ad c l hl w hn hI eg HF)
  have HA := Lib.hid (idxN_any p l 0)
  generalize idxN p l 0 = O at *
  generalize l.any p = R at *
  clear hI hl HF
  go_enter Tryd.func63, Tryd.ntmps63
  go_wp2_with fail
  refine (HC.out).mono ?_
  rintro e z ⟨rfl, hz⟩
  have HZ := Lib.hid hz
  clear hz
  go_wp2_with fail
  go_ret
  exact ⟨by rw [← HA.out]; rfl, HZ.out⟩
theorem any_all8 (l : List Int) (hi : Int) : (!(l.any fun v => !inB v 0 hi)) = allB l hi := by
  unfold allB
  rw [List.not_any_eq_all_not]
  congr 1
  funext a
  simp
set_option maxRecDepth 100000 in
set_option maxHeartbeats 4000000 in
theorem areIn_u (ad : Option Addr) (c : Nat) (l : List Int) (lo hi : Int) (hl : l.length ≤ maxLen) (w : World) (hI : RL KI w ad l) :
    Calls Tryd.prog 41 #[.slice ad l.length c, .int .i64 lo, .int .i64 hi] w fun e w' => e = .returned (.bool (!(l.any fun v => !inB v lo hi))) ∧ Below w.heap.size w w' := by
  obtain ⟨w1, V1, Z1, K1, B1⟩ := lay8 w [.int .i64 lo] 3
  obtain ⟨w2, V2, Z2, K2, B2⟩ := lay8 w1 [.int .i64 hi] 3
  rw [Z1] at Z2 K2 B2
  have HB := Lib.hid (show Below w.heap.size w w2 from B1.trans (B2.mono (by omega)))
  have KA := Lib.hid (K1.up B2 (by omega)); have KB := Lib.hid K2
  have HC := Lib.hid (containsInt_u (fun v => !inB v lo hi) 64 #[.pointer (some ⟨w.heap.size, 0, none⟩), .pointer (some ⟨w.heap.size + 1, 0, none⟩)] w2.heap.size ad c l hl w2 (Nat.le_refl _) (hI.below HB.out) (by intro args W; rfl)
    (fun x W b => areIn1_u x lo hi w.heap.size (w.heap.size + 1) W ((b.cell (p := ⟨w.heap.size, 0, none⟩) (by show w.heap.size < _; omega)).trans (KA.out 0 (by simp)).1) ((b.cell (p := ⟨w.heap.size + 1, 0, none⟩) (by show w.heap.size + 1 < _; omega)).trans (KB.out 0 (by simp)).1)))
  generalize (l.any fun v => !inB v lo hi) = R at *
  clear hI hl K1 K2 B1 B2
  go_enter Tryd.func41, Tryd.ntmps41
  go_wp2_with fail
  refine (HC.out).mono ?_
  rintro e z ⟨rfl, hz⟩
  have HZ := Lib.hid (HB.out.trans (hz.mono (by omega)))
  clear hz
  go_wp2_with fail
  go_ret
  exact ⟨by cases R <;> rfl, HZ.out⟩
end Go.Proofs.YtifdcfjllonmgaaDoor
