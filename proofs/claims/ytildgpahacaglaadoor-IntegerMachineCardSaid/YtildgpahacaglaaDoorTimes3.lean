/-
  The contracts of package integer's natural.times, its closure, and of fold over naturals.
-/
import Derived.Test.YtildgpahacaglaaDoorCmp
namespace Go.Proofs.YtildgpahacaglaaDoor
open Go Go.Proofs Go.RowKit Go.Lib

theorem grps_len_cons (d s : Nat) (hd : d < 10000) : (grps (d + 10000 * s)).length ≤ (grps s).length + 1 := by
  apply grps_length_le
  have h := (grps_length_iff (grps s).length s).1 (Nat.le_refl _)
  rw [Nat.pow_succ]
  omega

set_option maxRecDepth 100000 in
set_option maxHeartbeats 4000000 in
theorem times1_any (s n d : Nat) (hd : d < 10000) (B : Nat) (adn ad : Option Addr) (mn cn m c : Nat) (w : World) (hB : w.cell? ⟨B, 0, none⟩ = some (.slice adn mn cn)) (hBl : B < w.heap.size) (hn : NatAt w adn mn cn n) (hs : NatAt w ad m c s) (hm : m ≤ 900) (hmn : mn ≤ 900) :
    Calls Tryd.prog 69 #[.slice ad m c, .int .i64 (d : Nat), .pointer (some ⟨B, 0, none⟩)] w (NatPost w (d * n + 10000 * s)) := by
  have c1 : ∀ W, Below w.heap.size w W → Calls Tryd.prog 54 #[.slice ad m c, .int .i64 0] W (NatPost W (0 + 10000 * s)) := fun W b => followed_any s 0 (by decide) ad c m W (hs.below b (Nat.le_refl _)) (by omega)
  have c2 := fun W0 W (b0 : Below w.heap.size w W0) (b : Below W0.heap.size W0 W) ad' c' m' (hm' : (grps (0 + 10000 * s)).length = m') (hh : HoldI W0 ad' c' (grps (0 + 10000 * s))) =>
    plus_any3 (0 + 10000 * s) n (d * n + 10000 * s) (d : Int) (by omega) (by omega) (by rw [Int.natCast_add, Int.natCast_add, Int.natCast_mul, Int.natCast_mul]; simp; omega) ad' adn c' cn m' mn W ⟨hm', hh.below b (Nat.le_refl _)⟩ (hn.below (b0.trans (b.mono b0.size)) (Nat.le_refl _))
      (by have := grps_len_cons 0 s (by decide); have := hs.1; omega) (by omega)
  have hkeep : ∀ W, Below w.heap.size w W → W.cell? ⟨B, 0, none⟩ = some (.slice adn mn cn) := fun W b => (b.cell (p := ⟨B, 0, none⟩) hBl).trans hB
  have C1 := Lib.hid c1; have C2 := Lib.hid c2; have HK := Lib.hid hkeep
  clear c1 c2 hkeep hn hs
  go_enter Tryd.func69, Tryd.ntmps69
  go_wp2_with fail
  go_region_held3 (fun W => W.cell? ⟨B, 0, none⟩ = some (.slice adn mn cn)) (first | exact HK.out _ ⟨rfl, rfl, rfl, Nat.le_refl _, fun _ _ => rfl⟩ | exact HK.out _ ⟨hb1.os, hb1.tape, hb1.output, hb1.size, hb1.block⟩ | exact HK.out _ ⟨hb2.os, hb2.tape, hb2.output, hb2.size, hb2.block⟩)
    (first | (go_at_call 54; (with_reducible refine (C1.out _ ?_).mono ?_); exact ⟨rfl, rfl, rfl, Nat.le_refl _, fun _ _ => rfl⟩; rintro e w1 ⟨ad1, cap1, m1, rfl, hm1, hh1, hb1'⟩; have hb1 : Below w.heap.size w w1 := ⟨hb1'.os, hb1'.tape, hb1'.output, hb1'.size, hb1'.block⟩) | (go_at_call 45; (with_reducible refine (C2.out w1 _ hb1 ?_ _ _ _ hm1 hh1).mono ?_); exact ⟨rfl, rfl, rfl, Nat.le_refl _, fun _ _ => rfl⟩; rintro e w2 ⟨ad2, cap2, m2, rfl, hm2, hh2, hb2'⟩; have hb2 : Below w.heap.size w w2 := ⟨hb2'.os.trans hb1.os, hb2'.tape.trans hb1.tape, hb2'.output.trans hb1.output, Nat.le_trans hb1.size hb2'.size, fun k hk => (hb2'.block k (Nat.lt_of_lt_of_le hk hb1.size)).trans (hb1.block k hk)⟩))
  all_goals (
    go_wp2
    go_ret
    exact ⟨ad2, cap2, m2, rfl, hm2, hh2, hb2⟩)
end Go.Proofs.YtildgpahacaglaaDoor
