/-
  The contracts of the reference's checked and Made.
-/
import Derived.Test.YtildgpahacaglaaGreatDoorGdefs
namespace Go.Proofs.YtildgpahacaglaaGreatDoor
open Go Go.Proofs Go.RowKit Go.Lib

/-- Two guarded operations of Made's last statement, by names. -/
def hidMove (s : String) : Oper := { dst := some 33, op := Op.move (Operand.tmp 0), type := 9, pos := s, after := #[{ on := 3, ground := Ground.guard }], guard := some (3, true) }
def hidGe (s : String) : Oper := { dst := some 35, op := Op.binOp BinOp.geq 5 (Operand.tmp 34) (Operand.const (Value.int IntKind.u8 128)) 5, type := 4, pos := s, after := #[{ on := 5, ground := Ground.data }, { on := 3, ground := Ground.guard }], guard := some (3, true) }
set_option maxRecDepth 100000 in
set_option maxHeartbeats 8000000 in
theorem made_any (s : ByteArray) (hs : s.size ≤ maxLen) (most : Nat) (hmost : most ≤ 1000) (w : World) :
    Calls Tryz.prog 5 #[.string s, .int .i64 (most : Nat)] w fun e w' => ∃ x : Int, x.natAbs < 10 ^ most ∧ e = .returned (.string (textI x)) ∧ Below w.heap.size w w' := by
  unfold maxLen at hs
  go_enter Tryz.func5, Tryz.ntmps5
  go_wp2_with fail
  go_loopw [5, 6] (fun v i wr => ∃ (out : List Nat) (k : Nat), k ≤ s.size ∧ k ≤ most ∧ i = .int .i64 k ∧ Hid (out.length = k) ∧ Hid (IsDig out) ∧ Hid (OwnI wr w.heap.size v out) ∧ Hid (Below w.heap.size w wr)) (fun _ i _ => most - (RowKit.intOf i).toNat)
  case atStart => exact ⟨[], 0, Nat.zero_le _, Nat.zero_le _, rfl, rfl, isDig_nil, OwnI.nil _ _, Below.refl _ _⟩
  case round =>
    obtain ⟨out, k, hk, hkm, rfl, hlen, hdig, hown, hbr⟩ := hrel
    by_cases hgo : k < s.size ∧ k < most
    · have hk1 : (k : Int) < (s.size : Int) := by omega
      have hk2 : (k : Int) < (most : Int) := by omega
      have hix := index_str s k hgo.1
      have hb8 := (s[k]'hgo.1).toNat_lt
      obtain ⟨x, hx⟩ : ∃ x, (s[k]'hgo.1).toNat = x := ⟨_, rfl⟩
      rw [hx] at hix hb8
      obtain ⟨d, hd⟩ : ∃ d, x % 10 = d := ⟨_, rfl⟩
      have hdi : (x : Int) % 10 = (d : Int) := by omega
      have hd10 : d < 10 := by omega
      have hol : out.length + 1 ≤ 17592186044416 := by rw [hlen.out]; omega
      have hx2 : (x : Int) < 256 := by omega
      have hsize := hbr.out.size
      have HDI := Lib.hid hdi; have HGO := Lib.hid hgo
      clear hx hd hdi hgo
      go_wp2_with (first | (at_builtin; refine walk_pushI (w0 := w) rfl _ _ rfl w.heap.size _ out [d] rfl (hown.out.alloc _) (hbr.out.alloc hsize _) (Nat.le_trans hsize (by simp)) wr.heap.size 0 1 1 rfl rfl (new_num1 .i64 wr _ d HDI.out _) hol ?_; intro v3 W3 ho3 hb3))
      go_roundw
      case rel => exact ⟨out ++ [d], k + 1, by omega, by omega, by go_num, (by rw [List.length_append, hlen.out]; rfl : (out ++ [d]).length = k + 1), isDig_append hdig.out (fun z hz => by simp at hz; omega), ho3, hb3⟩
      case measure => simp [RowKit.intOf]; omega
    · obtain ⟨ad, cap, rfl, hh⟩ := hown.out.holds k hlen.out (by omega)
      have ct := fun W hH => trim_any out hdig.out ad cap W hH k hlen.out
      have hv := valD_lt hdig.out
      rw [hlen.out] at hv
      have hvm : valD out < 10 ^ most := Nat.lt_of_lt_of_le hv (Nat.pow_le_pow_right (by decide) hkm)
      have htr : trimD out = digs (valD out) := rfl
      have htk := trimD_take k hlen.out hdig.out
      have hh2 := hh.take (trimD out).length
      rw [← htk, htr] at hh2
      rw [htr] at ct
      obtain ⟨V, hV⟩ : ∃ V, valD out = V := ⟨_, rfl⟩
      rw [hV] at hvm ct hh2
      obtain ⟨q, hq⟩ : ∃ q, (digs V).length = q := ⟨_, rfl⟩
      rw [hq] at ct
      have hcx := fun neg W hH => text_any neg V ad cap q W hH hq
      have hfin : ∀ neg, (intD neg V).natAbs < 10 ^ most := fun neg => by rw [intD_abs]; exact hvm
      have CT := Lib.hid ct; have CX := Lib.hid hcx; have HF := Lib.hid hfin; have HH := Lib.hid hh; have HH2 := Lib.hid hh2; have HGO := Lib.hid hgo
      have hkeep : ∀ W, W.heap = wr.heap → HoldI W ad cap out ∧ HoldI W ad cap (digs V) := fun W hW => by
        have hb : Below wr.heap.size wr wr := Below.refl _ _
        have h1 : ∀ l, HoldI wr ad cap l → HoldI W ad cap l := fun l h => by
          obtain ⟨a1, a2, a3⟩ := h
          refine ⟨a1, a2, a3.imp id ?_⟩
          rintro ⟨g, o, e, hg, hn⟩
          exact ⟨g, o, e, by rw [hW]; exact hg, hn.heq (by rw [hW])⟩
        have _ := hb
        exact ⟨h1 _ HH.out, h1 _ HH2.out⟩
      have KEEP := Lib.hid hkeep
      clear ct hcx hfin hh hh2 hv hvm htr htk hV hq hkeep hown hgo
      by_cases hs0 : s.size = 0
      · have hz : ¬ (0 : Int) < (s.size : Int) := by omega
        have hz3 : decide ((0 : Int) < (s.size : Int)) = false := decide_eq_false hz
        have hz4 : decide (0 < s.size) = false := decide_eq_false (by omega)
        clear hs0
        have hz2 : ¬ (k : Int) < (s.size : Int) := by omega
        have hOp1 : ∀ s, hidMove s = { dst := some 33, op := Op.move (Operand.tmp 0), type := 9, pos := s, after := #[{ on := 3, ground := Ground.guard }], guard := some (3, true) } := fun _ => rfl
        have hOp2 : ∀ s, hidGe s = { dst := some 35, op := Op.binOp BinOp.geq 5 (Operand.tmp 34) (Operand.const (Value.int IntKind.u8 128)) 5, type := 4, pos := s, after := #[{ on := 5, ground := Ground.data }, { on := 3, ground := Ground.guard }], guard := some (3, true) } := fun _ => rfl
        go_wp2_with fail
        rw [← hOp1, ← hOp2]
        go_region_held3 (fun _ => True) (trivial) (first | (go_at_call 27; (with_reducible refine (CT.out _ ?_).mono ?_); exact (KEEP.out _ rfl).1; rintro e w1 ⟨rfl, rfl⟩) | (go_at_call 26; (with_reducible refine (CX.out _ _ ?_).mono ?_); exact (KEEP.out _ rfl).2; rintro e w2 ⟨rfl, hb2⟩))
        all_goals (
          go_wp2
          go_ret
          exact ⟨_, HF.out _, rfl, below_on hbr.out hb2 hbr.out.size rfl rfl rfl rfl⟩)
      · have hz : (0 : Int) < (s.size : Int) := by omega
        have hz5 : decide ((0 : Int) < (s.size : Int)) = true := decide_eq_true hz
        have hz6 : decide (0 < s.size) = true := decide_eq_true (by omega)
        have hz0 : 0 < s.size := by omega
        have hix := fun w => index_str s 0 hz0 w
        obtain ⟨x, hx⟩ : ∃ x, (s[0]'hz0).toNat = x := ⟨_, rfl⟩
        rw [hx] at hix
        clear hx
        obtain ⟨b, hb⟩ : ∃ b, decide ((128 : Int) ≤ (x : Int)) = b := ⟨_, rfl⟩
        have hb' : decide (128 ≤ x) = b := by rw [← hb, decide_eq_decide]; omega
        by_cases hks : k < s.size
        · have hz2 : (k : Int) < (s.size : Int) := by omega
          have hz3 : ¬ (k : Int) < (most : Int) := by have := HGO.out; omega
          go_wp2_with fail
          go_region_held3 (fun _ => True) (trivial) (first | (go_at_call 27; (with_reducible refine (CT.out _ ?_).mono ?_); exact (KEEP.out _ rfl).1; rintro e w1 ⟨rfl, rfl⟩) | (go_at_call 26; (with_reducible refine (CX.out _ _ ?_).mono ?_); exact (KEEP.out _ rfl).2; rintro e w2 ⟨rfl, hb2⟩))
          all_goals (
            go_wp2
            go_ret
            exact ⟨_, HF.out _, rfl, below_on hbr.out hb2 hbr.out.size rfl rfl rfl rfl⟩)
        · have hz2 : ¬ (k : Int) < (s.size : Int) := by omega
          go_wp2_with fail
          go_region_held3 (fun _ => True) (trivial) (first | (go_at_call 27; (with_reducible refine (CT.out _ ?_).mono ?_); exact (KEEP.out _ rfl).1; rintro e w1 ⟨rfl, rfl⟩) | (go_at_call 26; (with_reducible refine (CX.out _ _ ?_).mono ?_); exact (KEEP.out _ rfl).2; rintro e w2 ⟨rfl, hb2⟩))
          all_goals (
            go_wp2
            go_ret
            exact ⟨_, HF.out _, rfl, below_on hbr.out hb2 hbr.out.size rfl rfl rfl rfl⟩)
end Go.Proofs.YtildgpahacaglaaGreatDoor
