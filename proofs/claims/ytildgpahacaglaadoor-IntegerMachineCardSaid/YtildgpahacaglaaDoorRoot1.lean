/-
  The contracts of natural.root's closures.
-/
import Derived.Test.YtildgpahacaglaaDoorQuot2
namespace Go.Proofs.YtildgpahacaglaaDoor
open Go Go.Proofs Go.RowKit Go.Lib

theorem len_followed {n d m : Nat} (h : (grps n).length ≤ m) (hd : d < 10000) : (grps (d + 10000 * n)).length ≤ m + 1 := by
  apply grps_length_le
  have h1 := (grps_length_iff m n).1 h
  rw [Nat.pow_succ]
  generalize 10000 ^ m = p at *
  omega
theorem len_times {n f m : Nat} (h : (grps n).length ≤ m) (hf : f < 10000) : (grps (n * f)).length ≤ m + 1 := by
  apply grps_length_le
  have h1 := (grps_length_iff m n).1 h
  rw [Nat.pow_succ]
  generalize 10000 ^ m = p at *
  have h2 : n * f ≤ n * 10000 := Nat.mul_le_mul_left _ (by omega)
  omega

set_option maxRecDepth 100000 in
set_option maxHeartbeats 4000000 in
theorem growth_any (t g : Nat) (hg : g < 10000) (ad : Option Addr) (c m B : Nat) (w : World) (h : NatAt w ad m c t) (hm : m ≤ 990) (e1 : w.cell? ⟨B, 0, none⟩ = some (.slice ad m c)) :
    Calls Tryd.prog 56 #[.int .i64 ((g : Nat) : Int), .pointer (some ⟨B, 0, none⟩)] w (NatPost w ((g + 10000 * t) * g)) := by
  have c1 := followed_any t g hg ad c m w h (by omega)
  have c2 := fun W ad' c' m' (hm' : (grps (g + 10000 * t)).length = m') (hh : HoldI W ad' c' (grps (g + 10000 * t))) => multiple_any (g + 10000 * t) g hg ad' c' m' W ⟨hm', hh⟩ (by have := len_followed (d := g) (Nat.le_of_eq h.1) hg; omega)
  have C1 := Lib.hid c1; have C2 := Lib.hid c2
  clear c1 c2 h
  go_enter Tryd.func56, Tryd.ntmps56
  go_wp2_with fail
  refine C1.out.mono ?_
  rintro e w1 ⟨ad1, cap1, m1, rfl, hm1, hh1, hb1⟩
  have H2 := Lib.hid (C2.out w1 _ _ _ hm1 hh1); have HB := Lib.hid hb1
  clear hh1 hb1 hm1 C1 C2
  go_wp2_with fail
  refine H2.out.mono ?_
  rintro e w2 hpost
  have HP := Lib.hid (hpost.on HB.out)
  obtain ⟨ad2, cap2, m2, rfl, hm2, hh2⟩ := hpost
  clear hm2 hh2 H2
  go_wp2_with fail
  go_ret
  exact HP.out

set_option maxRecDepth 100000 in
set_option maxHeartbeats 4000000 in
theorem fitsR_any (x t g : Nat) (hg : g < 10000) (adx adt : Option Addr) (cx ct nx nt B1 B2 B3 : Nat) (w : World) (h1 : NatAt w adx nx cx x) (h2 : NatAt w adt nt ct t) (hnt : nt ≤ 990)
    (l1 : B1 < w.heap.size) (l2 : B2 < w.heap.size) (l3 : B3 < w.heap.size) (e1 : w.cell? ⟨B1, 0, none⟩ = some (.func (.func 46) #[.slice adx nx cx] #[])) (e2 : w.cell? ⟨B2, 0, none⟩ = some (.func (.func 56) #[] #[.pointer (some ⟨B3, 0, none⟩)])) (e3 : w.cell? ⟨B3, 0, none⟩ = some (.slice adt nt ct)) :
    Calls Tryd.prog 58 #[.int .i64 ((g : Nat) : Int), .pointer (some ⟨B1, 0, none⟩), .pointer (some ⟨B2, 0, none⟩)] w fun e w' => e = .returned (.bool (!decide (x < (g + 10000 * t) * g))) ∧ Below w.heap.size w w' := by
  have c1 := fun W (b : Below w.heap.size w W) => growth_any t g hg adt ct nt B3 W (h2.below b (Nat.le_refl _)) hnt ((b.cell (p := ⟨B3, 0, none⟩) l3).trans e3)
  have c2 := fun W0 W (b0 : Below w.heap.size w W0) (b : Below W0.heap.size W0 W) ad' c' m' (hm' : (grps ((g + 10000 * t) * g)).length = m') (hh : HoldI W0 ad' c' (grps ((g + 10000 * t) * g))) =>
    less_any x ((g + 10000 * t) * g) adx ad' cx c' nx m' W (h1.below (below_of b0 b) (Nat.le_refl _)) ⟨hm', hh.below b (Nat.le_refl _)⟩
  have hkeep : ∀ W, Below w.heap.size w W → W.cell? ⟨B1, 0, none⟩ = some (.func (.func 46) #[.slice adx nx cx] #[]) ∧ W.cell? ⟨B2, 0, none⟩ = some (.func (.func 56) #[] #[.pointer (some ⟨B3, 0, none⟩)]) :=
    fun W b => ⟨(b.cell (p := ⟨B1, 0, none⟩) l1).trans e1, (b.cell (p := ⟨B2, 0, none⟩) l2).trans e2⟩
  obtain ⟨R, hR⟩ : ∃ R, decide (x < (g + 10000 * t) * g) = R := ⟨_, rfl⟩
  rw [hR] at c2
  rw [hR]
  have C1 := Lib.hid c1; have C2 := Lib.hid c2; have HK := Lib.hid hkeep
  clear c1 c2 hkeep h1 h2 hR e3
  go_enter Tryd.func58, Tryd.ntmps58
  go_wp2_with fail
  go_region_held3 (fun W => W.cell? ⟨B1, 0, none⟩ = some (.func (.func 46) #[.slice adx nx cx] #[]) ∧ W.cell? ⟨B2, 0, none⟩ = some (.func (.func 56) #[] #[.pointer (some ⟨B3, 0, none⟩)]))
    (first | exact HK.out _ ⟨rfl, rfl, rfl, Nat.le_refl _, fun _ _ => rfl⟩ | exact HK.out _ ⟨hb1.os, hb1.tape, hb1.output, hb1.size, hb1.block⟩ | exact HK.out _ ⟨hb2.os, hb2.tape, hb2.output, hb2.size, hb2.block⟩)
    (first | (go_at_call 56; (with_reducible refine (C1.out _ ?_).mono ?_); exact ⟨rfl, rfl, rfl, Nat.le_refl _, fun _ _ => rfl⟩; rintro e w1 ⟨ad1, cap1, m1, rfl, hm1, hh1, hb1'⟩; have hb1 : Below w.heap.size w w1 := ⟨hb1'.os, hb1'.tape, hb1'.output, hb1'.size, hb1'.block⟩) | (go_at_call 46; (with_reducible refine (C2.out w1 _ hb1 ?_ _ _ _ hm1 hh1).mono ?_); exact ⟨rfl, rfl, rfl, Nat.le_refl _, fun _ _ => rfl⟩; rintro e w2 ⟨rfl, hb2'⟩; have hb2 : Below w.heap.size w w2 := ⟨hb2'.os.trans hb1.os, hb2'.tape.trans hb1.tape, hb2'.output.trans hb1.output, Nat.le_trans hb1.size hb2'.size, fun k hk => (hb2'.block k (Nat.lt_of_lt_of_le hk hb1.size)).trans (hb1.block k hk)⟩))
  all_goals (
    go_wp2
    go_ret
    exact ⟨rfl, hb2⟩)

set_option maxRecDepth 100000 in
set_option maxHeartbeats 4000000 in
theorem greatest1R_any (x t low i : Nat) (hq : low + i + 1 < 10000) (adx adt : Option Addr) (cx ct nx nt B1 B2 B3 Bf Bl : Nat) (w : World) (h1 : NatAt w adx nx cx x) (h2 : NatAt w adt nt ct t) (hnt : nt ≤ 990)
    (l1 : B1 < w.heap.size) (l2 : B2 < w.heap.size) (l3 : B3 < w.heap.size) (e1 : w.cell? ⟨B1, 0, none⟩ = some (.func (.func 46) #[.slice adx nx cx] #[])) (e2 : w.cell? ⟨B2, 0, none⟩ = some (.func (.func 56) #[] #[.pointer (some ⟨B3, 0, none⟩)])) (e3 : w.cell? ⟨B3, 0, none⟩ = some (.slice adt nt ct))
    (ef : w.cell? ⟨Bf, 0, none⟩ = some (.func (.func 58) #[] #[.pointer (some ⟨B1, 0, none⟩), .pointer (some ⟨B2, 0, none⟩)])) (el : w.cell? ⟨Bl, 0, none⟩ = some (.int .i64 ((low : Nat) : Int))) :
    Calls Tryd.prog 76 #[.int .i64 ((i : Nat) : Int), .pointer (some ⟨Bf, 0, none⟩), .pointer (some ⟨Bl, 0, none⟩)] w fun e w' => e = .returned (.bool (!(!decide (x < (low + i + 1 + 10000 * t) * (low + i + 1))))) ∧ Below w.heap.size w w' := by
  have c := fun W (e : w = W) => fitsR_any x t (low + i + 1) hq adx adt cx ct nx nt B1 B2 B3 W (by rw [← e]; exact h1) (by rw [← e]; exact h2) hnt (by rw [← e]; exact l1) (by rw [← e]; exact l2) (by rw [← e]; exact l3) (by rw [← e]; exact e1) (by rw [← e]; exact e2) (by rw [← e]; exact e3)
  obtain ⟨R, hR⟩ : ∃ R, (!decide (x < (low + i + 1 + 10000 * t) * (low + i + 1))) = R := ⟨_, rfl⟩
  rw [hR] at c ⊢
  have hz : ((low + i + 1 : Nat) : Int) = (low : Int) + (i : Int) + 1 := by omega
  rw [hz] at c
  have C := Lib.hid c
  clear c h1 h2 e1 e2 e3 hR hz
  go_enter Tryd.func76, Tryd.ntmps76
  go_wp2_with fail
  refine (C.out _ rfl).mono ?_
  rintro e w1 ⟨rfl, b⟩
  go_wp2
  go_ret
  exact ⟨rfl, b⟩

theorem root_last (x t : Nat) (adx adt : Option Addr) (cx ct nx nt B1 B2 B3 : Nat) (w : World) (h1 : NatAt w adx nx cx x) (h2 : NatAt w adt nt ct t) (hnt : nt ≤ 990)
    (l1 : B1 < w.heap.size) (l2 : B2 < w.heap.size) (l3 : B3 < w.heap.size) (e1 : w.cell? ⟨B1, 0, none⟩ = some (.func (.func 46) #[.slice adx nx cx] #[])) (e2 : w.cell? ⟨B2, 0, none⟩ = some (.func (.func 56) #[] #[.pointer (some ⟨B3, 0, none⟩)])) (e3 : w.cell? ⟨B3, 0, none⟩ = some (.slice adt nt ct)) :
    Calls Tryd.prog 57 #[.int .i64 0, .int .i64 9999, .func (.func 58) #[] #[.pointer (some ⟨B1, 0, none⟩), .pointer (some ⟨B2, 0, none⟩)]] w
      fun e w' => (∃ g : Nat, (g < 10000 ∧ (g + 10000 * t) * g ≤ x ∧ (g = 9999 ∨ x < (g + 1 + 10000 * t) * (g + 1))) ∧ e = .returned (.int .i64 ((g : Nat) : Int))) ∧ Below w.heap.size w w' := by
  have hh := greatest_any 0 9999 (by omega) (by omega) (fun g => !decide (x < (g + 10000 * t) * g)) 58 #[.pointer (some ⟨B1, 0, none⟩), .pointer (some ⟨B2, 0, none⟩)] w (fun W i Bf Bl hi hb _ _ _ _ ef el =>
    greatest1R_any x t 0 i (by omega) adx adt cx ct nx nt B1 B2 B3 Bf Bl W (h1.below hb (Nat.le_refl _)) (h2.below hb (Nat.le_refl _)) hnt (Nat.lt_of_lt_of_le l1 hb.size) (Nat.lt_of_lt_of_le l2 hb.size) (Nat.lt_of_lt_of_le l3 hb.size)
      ((hb.cell (p := ⟨B1, 0, none⟩) l1).trans e1) ((hb.cell (p := ⟨B2, 0, none⟩) l2).trans e2) ((hb.cell (p := ⟨B3, 0, none⟩) l3).trans e3) ef el)
  refine Calls.mono hh ?_
  rintro e w' ⟨⟨g, ⟨g1, g2, g3, g4⟩, rfl⟩, b⟩
  refine ⟨⟨g, ⟨by omega, ?_, ?_⟩, rfl⟩, b⟩
  · rcases g3 with rfl | h
    · simp
    · simpa using h
  · rcases g4 with h | h
    · exact .inl h
    · right; simpa using h
end Go.Proofs.YtildgpahacaglaaDoor
