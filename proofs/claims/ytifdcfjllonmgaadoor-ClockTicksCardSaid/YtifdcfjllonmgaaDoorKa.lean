/-
  Layer 8, the program: isIn, isTime, ValidClock.
-/
import Derived.Test.YtifdcfjllonmgaaDoorHh
namespace Go.Proofs.YtifdcfjllonmgaaDoor
open Go Go.Proofs Go.RowKit Go.Lib

set_option maxHeartbeats 1000000 in
theorem isIn_u (n lo hi : Int) (w : World) :
    Calls Tryd.prog 40 #[.int .i64 n, .int .i64 lo, .int .i64 hi] w fun e w' => e = .returned (.bool (inB n lo hi)) ∧ w' = w := by
  obtain ⟨B, hB⟩ : ∃ B, inB n lo hi = B := ⟨_, rfl⟩
  rw [hB]
  have HB := Lib.hid hB
  clear hB
  by_cases h1 : lo ≤ n
  · by_cases h2 : n ≤ hi
    · have HF := Lib.hid (show B = true by rw [← HB.out]; exact decide_eq_true ⟨h1, h2⟩)
      go_enter Tryd.func40, Tryd.ntmps40
      go_wp2
      go_ret
      exact ⟨by rw [HF.out]; rfl, rfl⟩
    · have HF := Lib.hid (show B = false by rw [← HB.out]; exact decide_eq_false (by omega))
      go_enter Tryd.func40, Tryd.ntmps40
      go_wp2
      go_ret
      exact ⟨by rw [HF.out]; rfl, rfl⟩
  · have h3 : decide (lo ≤ n) = false := decide_eq_false h1
    have HF := Lib.hid (show B = false by rw [← HB.out]; exact decide_eq_false (by omega))
    go_enter Tryd.func40, Tryd.ntmps40
    go_wp2
    go_ret
    exact ⟨by rw [HF.out]; rfl, rfl⟩
def tmB (t : Int) : Bool := inB t (-17592186044416) 17592186044416
set_option maxHeartbeats 1000000 in
theorem isTime_u (t : Int) (w : World) : Calls Tryd.prog 54 #[.int .i64 t] w fun e w' => e = .returned (.bool (tmB t)) ∧ w' = w := by
  have HC := Lib.hid (fun W => isIn_u t (-17592186044416) 17592186044416 W)
  go_enter Tryd.func54, Tryd.ntmps54
  go_wp2_with fail
  refine (HC.out _).mono ?_
  rintro e z ⟨rfl, rfl⟩
  go_wp2_with fail
  go_ret
  exact ⟨rfl, rfl⟩
set_option maxHeartbeats 1000000 in
theorem validClock1_u (x : An) (w : World) : Calls Tryd.prog 58 #[.agg #[.int .i64 x.a, .int .i64 x.t]] w fun e w' => e = .returned (.bool (!anB x)) ∧ Below w.heap.size w w' := by
  have HC := Lib.hid (fun W => isIn_u x.a 0 1000001 W); have HD := Lib.hid (fun W => isTime_u x.t W)
  have HB := Lib.hid (fun o => (Below.refl w.heap.size w).alloc (Nat.le_refl _) o)
  have HV := Lib.hid (show anB x = (inB x.a 0 1000001 && tmB x.t) from rfl)
  obtain ⟨R, hR⟩ : ∃ R, (!anB x) = R := ⟨_, rfl⟩
  rw [hR]
  have HR := Lib.hid (show R = !(inB x.a 0 1000001 && tmB x.t) by rw [← hR, HV.out])
  generalize inB x.a 0 1000001 = b1 at *
  generalize tmB x.t = b2 at *
  clear hR
  go_enter Tryd.func58, Tryd.ntmps58
  cases b1 with
  | false =>
    go_wp2_with (first | (go_at_call 40; refine (HC.out _).mono ?_; rintro e z ⟨rfl, rfl⟩))
    go_ret
    exact ⟨by rw [HR.out]; rfl, HB.out _⟩
  | true =>
    go_wp2_with (first | (go_at_call 40; refine (HC.out _).mono ?_; rintro e z ⟨rfl, rfl⟩) | (go_at_call 54; refine (HD.out _).mono ?_; rintro e z ⟨rfl, rfl⟩))
    go_ret
    exact ⟨by rw [HR.out]; cases b2 <;> rfl, HB.out _⟩
/-- The index of the first element of which p is true, or -1. -/
def idxN {T : Type} (p : T → Bool) : List T → Nat → Int
  | [], _ => -1
  | x :: l, k => if p x then (k : Int) else idxN p l (k + 1)
theorem idxN_step {T : Type} (p : T → Bool) {l : List T} {k : Nat} (h : k < l.length) : idxN p (l.drop k) k = if p l[k] then (k : Int) else idxN p (l.drop (k + 1)) (k + 1) := by
  rw [List.drop_eq_getElem_cons h]
  rfl
theorem idxN_any {T : Type} (p : T → Bool) : ∀ (l : List T) (k : Nat), decide (0 ≤ idxN p l k) = l.any p
  | [], k => by simp [idxN]
  | x :: l, k => by
    unfold idxN
    cases h : p x with
    | true => rw [if_pos rfl, List.any_cons, h, Bool.true_or]; exact decide_eq_true (Int.natCast_nonneg _)
    | false => rw [if_neg (by decide), idxN_any p l (k + 1), List.any_cons, h, Bool.false_or]
set_option maxRecDepth 100000 in
set_option maxHeartbeats 4000000 in
theorem indexAn_u (ad : Option Addr) (c : Nat) (l : List An) (hl : l.length ≤ maxLen) (w : World) (hI : RL KA w ad l) :
    Calls Tryd.prog 77 #[.slice ad l.length c, .func (.func 58) #[] #[]] w fun e w' => e = .returned (.int .i64 (idxN (fun x => !anB x) l 0)) ∧ Below w.heap.size w w' := by
  unfold maxLen at hl
  have HC := Lib.hid (fun k hk => hI.an k hk)
  have HST := Lib.hid (fun k h => idxN_step (fun x => !anB x) (l := l) (k := k) h)
  have HN := Lib.hid (show idxN (fun x => !anB x) (l.drop l.length) l.length = -1 by rw [List.drop_length]; rfl)
  have H0 := Lib.hid (show idxN (fun x => !anB x) l 0 = idxN (fun x => !anB x) (l.drop 0) 0 from rfl)
  have HF := Lib.hid (fun x W => validClock1_u x W)
  generalize idxN (fun x => !anB x) l 0 = O at *
  clear hI
  go_enter Tryd.func77, Tryd.ntmps77
  go_wp2_with fail
  go_loopw [8] (fun i wr => ∃ k : Nat, k ≤ l.length ∧ i = .int .i64 k ∧ Hid (O = idxN (fun x => !anB x) (l.drop k) k) ∧ Hid (Below w.heap.size w wr)) (fun i _ => l.length - (RowKit.intOf i).toNat)
  case atStart => exact ⟨0, Nat.zero_le _, rfl, H0, Lib.hid (Below.refl _ _)⟩
  case round =>
    obtain ⟨k, hk, rfl, HK, HB⟩ := hrel
    by_cases hlt : k < l.length
    · have hki : (k : Int) < (l.length : Int) := by omega
      obtain ⟨b, o, rfl, _, e2⟩ := HC.out k hlt
      have hik := fun W => at_an8 b o l.length c k hlt W
      obtain ⟨c0, c1⟩ := e2 wr HB.out
      have hst := HST.out k hlt
      have HLT := Lib.hid hlt
      generalize l[k]'hlt = x at *
      have CB := Lib.hid (fun W => HF.out x W)
      cases hb : (!anB x) with
      | true =>
        have HO := Lib.hid (show O = (k : Int) by rw [HK.out, hst, hb]; rfl)
        rw [hb] at CB
        clear hst hb e2 hlt
        go_wp2_with fail
        refine (CB.out _).mono ?_
        rintro e z ⟨rfl, hz⟩
        have HZ := Lib.hid (below_up8 HB.out hz)
        clear hz c0 c1
        go_wp2_with fail
        go_ret
        exact ⟨by rw [HO.out]; rfl, HZ.out⟩
      | false =>
        have HO := Lib.hid (show O = idxN (fun x => !anB x) (l.drop (k + 1)) (k + 1) by rw [HK.out, hst, hb]; rfl)
        rw [hb] at CB
        clear hst hb e2 hlt
        go_wp2_with fail
        refine (CB.out _).mono ?_
        rintro e z ⟨rfl, hz⟩
        have HZ := Lib.hid (below_up8 HB.out hz)
        clear hz c0 c1
        go_wp2_with fail
        go_roundw
        case rel => exact ⟨k + 1, HLT.out, by go_num, HO, HZ⟩
        case measure => have := HLT.out; simp [RowKit.intOf]; omega
    · have hke : k = l.length := by omega
      have HO := Lib.hid (show O = -1 by rw [HK.out, hke, HN.out])
      have hki : ¬ (k : Int) < (l.length : Int) := by omega
      clear hke hlt
      go_wp2_with fail
      go_ret
      exact ⟨by rw [HO.out]; rfl, HB.out⟩
set_option maxRecDepth 100000 in
set_option maxHeartbeats 4000000 in
theorem containsAn_u (ad : Option Addr) (c : Nat) (l : List An) (hl : l.length ≤ maxLen) (w : World) (hI : RL KA w ad l) :
    Calls Tryd.prog 57 #[.slice ad l.length c, .func (.func 58) #[] #[]] w fun e w' => e = .returned (.bool (l.any fun x => !anB x)) ∧ Below w.heap.size w w' := by
  have HC := Lib.hid (indexAn_u ad c l hl w hI)
  have HA := Lib.hid (idxN_any (fun x => !anB x) l 0)
  generalize idxN (fun x => !anB x) l 0 = O at *
  generalize (l.any fun x => !anB x) = R at *
  clear hI hl
  go_enter Tryd.func57, Tryd.ntmps57
  go_wp2_with fail
  refine (HC.out).mono ?_
  rintro e z ⟨rfl, hz⟩
  have HZ := Lib.hid hz
  clear hz
  go_wp2_with fail
  go_ret
  exact ⟨by rw [← HA.out]; rfl, HZ.out⟩
set_option maxRecDepth 100000 in
set_option maxHeartbeats 4000000 in
theorem validClock_u (v : Value) (x : Cl) (w : World) (hc : CkAt w v x) (hl : x.an.length ≤ maxLen) :
    Calls Tryd.prog 29 #[v] w fun e w' => e = .returned (.bool (ckB x)) ∧ Below w.heap.size w w' := by
  obtain ⟨ad, cp, rfl, hI⟩ := hc
  obtain ⟨R, hR⟩ : ∃ R, ckB x = R := ⟨_, rfl⟩
  rw [hR]
  have HV := Lib.hid (show R = ((!(x.an.any fun a => !anB a)) && inB x.dr 0 1000 && inB x.an.length 1 24) by
    rw [← hR]
    unfold ckB
    congr 2
    rw [List.not_any_eq_all_not]
    congr 1
    funext a
    simp)
  have HD := Lib.hid (fun W => isIn_u x.dr 0 1000 W); have HE := Lib.hid (fun W => isIn_u (x.an.length : Nat) 1 24 W)
  have HK := Lib.hid (fun W (b : Below w.heap.size w W) => containsAn_u ad cp x.an hl W (hI.below b))
  have HB := Lib.hid (fun o => (Below.refl w.heap.size w).alloc (Nat.le_refl _) o)
  generalize (x.an.any fun a => !anB a) = b3 at *
  generalize inB x.dr 0 1000 = b1 at *
  generalize inB (x.an.length : Nat) 1 24 = b2 at *
  clear hI hR hl
  go_enter Tryd.func29, Tryd.ntmps29
  cases b1 with
  | false =>
    go_wp2_with (first | (go_at_call 40; (first | (with_reducible refine (HD.out _).mono ?_) | (with_reducible refine (HE.out _).mono ?_)); rintro e z ⟨rfl, rfl⟩))
    go_ret
    exact ⟨by rw [HV.out]; simp, HB.out _⟩
  | true =>
    cases b2 with
    | false =>
      go_wp2_with (first | (go_at_call 40; (first | (with_reducible refine (HD.out _).mono ?_) | (with_reducible refine (HE.out _).mono ?_)); rintro e z ⟨rfl, rfl⟩))
      go_ret
      exact ⟨by rw [HV.out]; simp, HB.out _⟩
    | true =>
      go_wp2_with (first | (go_at_call 40; (first | (with_reducible refine (HD.out _).mono ?_) | (with_reducible refine (HE.out _).mono ?_)); rintro e z ⟨rfl, rfl⟩) | (go_at_call 57; refine (HK.out _ (HB.out _)).mono ?_; rintro e z ⟨rfl, hz⟩; have HZ := Lib.hid ((HB.out _).trans (hz.mono (by simp))); clear hz))
      go_ret
      exact ⟨by rw [HV.out]; cases b3 <;> rfl, HZ.out⟩
end Go.Proofs.YtifdcfjllonmgaaDoor
