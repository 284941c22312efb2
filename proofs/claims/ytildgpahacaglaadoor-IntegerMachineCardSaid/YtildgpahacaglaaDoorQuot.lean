/-
  The contracts of package integer's natural.groupOfQuotient and its closure.
-/
import Derived.Test.YtildgpahacaglaaDoorSearch
namespace Go.Proofs.YtildgpahacaglaaDoor
open Go Go.Proofs Go.RowKit Go.Lib

theorem below_of {w W W' : World} (b : Below w.heap.size w W) (b' : Below W.heap.size W W') : Below w.heap.size w W' := b.trans (b'.mono b.size)
theorem quot_found {x d low high r : Nat} (hd : 0 < d) (h : Greatest (fun q => !decide (x < d * q)) low high r) (h1 : low ≤ x / d) (h2 : x / d ≤ high) : r = x / d := by
  obtain ⟨_, _, h3, h4⟩ := h
  have a1 : r ≤ x / d := by
    rcases h3 with h | h
    · omega
    · rw [Nat.le_div_iff_mul_le hd]
      simp at h
      rw [Nat.mul_comm]; exact h
  have a2 : x / d ≤ r := by
    rcases h4 with h | h
    · omega
    · simp at h
      have := (Nat.div_lt_iff_lt_mul hd).2 (by rw [Nat.mul_comm]; exact h)
      omega
  omega

set_option maxRecDepth 100000 in
set_option maxHeartbeats 4000000 in
theorem fitsQ_any (x d q : Nat) (hq : q < 10000) (adx add : Option Addr) (cx cd nx nd B1 B2 : Nat) (w : World) (h1 : NatAt w adx nx cx x) (h2 : NatAt w add nd cd d) (hnd : nd ≤ 900)
    (l1 : B1 < w.heap.size) (l2 : B2 < w.heap.size) (e1 : w.cell? ⟨B1, 0, none⟩ = some (.func (.func 46) #[.slice adx nx cx] #[])) (e2 : w.cell? ⟨B2, 0, none⟩ = some (.slice add nd cd)) :
    Calls Tryd.prog 88 #[.int .i64 ((q : Nat) : Int), .pointer (some ⟨B1, 0, none⟩), .pointer (some ⟨B2, 0, none⟩)] w fun e w' => e = .returned (.bool (!decide (x < d * q))) ∧ Below w.heap.size w w' := by
  have c1 := fun W (b : Below w.heap.size w W) => multiple_any d q hq add cd nd W (h2.below b (Nat.le_refl _)) (by omega)
  have c2 := fun W0 W (b0 : Below w.heap.size w W0) (b : Below W0.heap.size W0 W) ad' c' m' (hm' : (grps (d * q)).length = m') (hh : HoldI W0 ad' c' (grps (d * q))) =>
    less_any x (d * q) adx ad' cx c' nx m' W (h1.below (below_of b0 b) (Nat.le_refl _)) ⟨hm', hh.below b (Nat.le_refl _)⟩
  have hkeep : ∀ W, Below w.heap.size w W → W.cell? ⟨B1, 0, none⟩ = some (.func (.func 46) #[.slice adx nx cx] #[]) ∧ W.cell? ⟨B2, 0, none⟩ = some (.slice add nd cd) :=
    fun W b => ⟨(b.cell (p := ⟨B1, 0, none⟩) l1).trans e1, (b.cell (p := ⟨B2, 0, none⟩) l2).trans e2⟩
  obtain ⟨R, hR⟩ : ∃ R, decide (x < d * q) = R := ⟨_, rfl⟩
  rw [hR] at c2
  rw [hR]
  have C1 := Lib.hid c1; have C2 := Lib.hid c2; have HK := Lib.hid hkeep
  clear c1 c2 hkeep h1 h2 hR
  go_enter Tryd.func88, Tryd.ntmps88
  go_wp2_with fail
  go_region_held3 (fun W => W.cell? ⟨B1, 0, none⟩ = some (.func (.func 46) #[.slice adx nx cx] #[]) ∧ W.cell? ⟨B2, 0, none⟩ = some (.slice add nd cd))
    (first | exact HK.out _ ⟨rfl, rfl, rfl, Nat.le_refl _, fun _ _ => rfl⟩ | exact HK.out _ ⟨hb1.os, hb1.tape, hb1.output, hb1.size, hb1.block⟩ | exact HK.out _ ⟨hb2.os, hb2.tape, hb2.output, hb2.size, hb2.block⟩)
    (first | (go_at_call 55; (with_reducible refine (C1.out _ ?_).mono ?_); exact ⟨rfl, rfl, rfl, Nat.le_refl _, fun _ _ => rfl⟩; rintro e w1 ⟨ad1, cap1, m1, rfl, hm1, hh1, hb1'⟩; have hb1 : Below w.heap.size w w1 := ⟨hb1'.os, hb1'.tape, hb1'.output, hb1'.size, hb1'.block⟩) | (go_at_call 46; (with_reducible refine (C2.out w1 _ hb1 ?_ _ _ _ hm1 hh1).mono ?_); exact ⟨rfl, rfl, rfl, Nat.le_refl _, fun _ _ => rfl⟩; rintro e w2 ⟨rfl, hb2'⟩; have hb2 : Below w.heap.size w w2 := ⟨hb2'.os.trans hb1.os, hb2'.tape.trans hb1.tape, hb2'.output.trans hb1.output, Nat.le_trans hb1.size hb2'.size, fun k hk => (hb2'.block k (Nat.lt_of_lt_of_le hk hb1.size)).trans (hb1.block k hk)⟩))
  all_goals (
    go_wp2
    go_ret
    exact ⟨rfl, hb2⟩)

set_option maxRecDepth 100000 in
set_option maxHeartbeats 4000000 in
theorem greatest1Q_any (x d low i : Nat) (hq : low + i + 1 < 10000) (adx add : Option Addr) (cx cd nx nd B1 B2 Bf Bl : Nat) (w : World) (h1 : NatAt w adx nx cx x) (h2 : NatAt w add nd cd d) (hnd : nd ≤ 900)
    (l1 : B1 < w.heap.size) (l2 : B2 < w.heap.size) (e1 : w.cell? ⟨B1, 0, none⟩ = some (.func (.func 46) #[.slice adx nx cx] #[])) (e2 : w.cell? ⟨B2, 0, none⟩ = some (.slice add nd cd))
    (ef : w.cell? ⟨Bf, 0, none⟩ = some (.func (.func 88) #[] #[.pointer (some ⟨B1, 0, none⟩), .pointer (some ⟨B2, 0, none⟩)])) (el : w.cell? ⟨Bl, 0, none⟩ = some (.int .i64 ((low : Nat) : Int))) :
    Calls Tryd.prog 76 #[.int .i64 ((i : Nat) : Int), .pointer (some ⟨Bf, 0, none⟩), .pointer (some ⟨Bl, 0, none⟩)] w fun e w' => e = .returned (.bool (!(!decide (x < d * (low + i + 1))))) ∧ Below w.heap.size w w' := by
  have c := fun W (e : w = W) => fitsQ_any x d (low + i + 1) hq adx add cx cd nx nd B1 B2 W (by rw [← e]; exact h1) (by rw [← e]; exact h2) hnd (by rw [← e]; exact l1) (by rw [← e]; exact l2) (by rw [← e]; exact e1) (by rw [← e]; exact e2)
  obtain ⟨R, hR⟩ : ∃ R, (!decide (x < d * (low + i + 1))) = R := ⟨_, rfl⟩
  rw [hR] at c ⊢
  have hz : ((low + i + 1 : Nat) : Int) = (low : Int) + (i : Int) + 1 := by omega
  rw [hz] at c
  have C := Lib.hid c
  clear c h1 h2 e1 e2 hR hz
  go_enter Tryd.func76, Tryd.ntmps76
  go_wp2_with fail
  refine (C.out _ rfl).mono ?_
  rintro e w1 ⟨rfl, b⟩
  go_wp2
  go_ret
  exact ⟨rfl, b⟩
end Go.Proofs.YtildgpahacaglaaDoor
