/-
  The contract of the laws' minus.
-/
import Derived.Test.YtlcibnmcannapaaGreatDoorGridQ
namespace Go.Proofs.YtlcibnmcannapaaGreatDoor
open Go Go.Proofs Go.RowKit Go.Lib

set_option maxRecDepth 100000 in
set_option maxHeartbeats 16000000 in
theorem minus_q (q : Rat) (hq : FitsQ q) (w : World) (hR : Ready w) :
    Calls Tryz.prog 42 #[.agg #[.string (nT q), .string (dT q)]] w fun e w' => e = .returned (.agg #[.string (nT (-q)), .string (dT (-q))]) ∧ Below w.heap.size w w' := by
  obtain ⟨hs1, hs2⟩ := text_size hq
  have cs := fun W (h : Ready W) => sub_q ⟨#[48]⟩ ⟨#[49]⟩ (nT q) (dT q) (by decide) (by decide) hs1 hs2 W h
  rw [(neg_text hq).1, (neg_text hq).2, show outN true (-q) = nT (-q) from rfl, show outD true (-q) = dT (-q) from rfl, show outE true = 0 from rfl] at cs
  generalize nT (-q) = X at *
  generalize dT (-q) = Y at *
  generalize nT q = N at *
  generalize dT q = D at *
  obtain ⟨W0, hW0, b0, hcc⟩ := box_two w N D ⟨#[]⟩ ⟨#[]⟩
  have HW := Lib.hid hW0; have B1 := Lib.hid b0; have P1 := Lib.hid b0
  have F1 := Lib.hid (fun W (b : Below W0.heap.size W0 W) => (hcc W b).1)
  have FZ := Lib.hid (fun W (b : Below W0.heap.size W0 W) => (hcc W b).2)
  have CS := Lib.hid cs; have IS := Lib.hid is_any; have HR := Lib.hid hR
  clear hW0 b0 hcc cs hR hs1 hs2 hq
  go_enter Tryz.func42, Tryz.ntmps42
  go_upto_region 1 with (rw [HW.out])
  go_cut [3, 4] from 5 to 10 (fun sp se wx => se = .int .i64 0 ∧ ∃ A : Nat, sp = .pointer (some ⟨A, 0, none⟩) ∧ Hid (RatAt wx A X Y) ∧ Hid (Below W0.heap.size W0 wx))
  case first =>
    have K3 := Lib.hid (fun W (b : Below W0.heap.size W0 W) => And.intro (F1.out W b).1 (F1.out W b).2.1)
    go_region_held3 (fun W => W.cell? ⟨w.heap.size, 0, none⟩ = some (.string N) ∧ W.cell? ⟨w.heap.size, 1, none⟩ = some (.string D)) (first | exact K3.out _ ⟨rfl, rfl, rfl, Nat.le_refl _, fun _ _ => rfl⟩ | exact K3.out _ (((Below.refl _ _).alloc (Nat.le_refl _) _).drew) | exact K3.out _ ((Below.refl _ _).drew.alloc (Nat.le_refl _) _) | exact K3.out _ h2 | exact K3.out _ (h2.alloc h2.size _) | exact K3.out _ ((h2.setCell (p := _) (by first | exact Nat.le_refl _ | exact h1.size) _).setCell (p := _) (by first | exact Nat.le_refl _ | exact h1.size) _) | exact K3.out _ h1 | exact K3.out _ (h1.alloc h1.size _)) (first | (go_at_call 41; (with_reducible refine (IS.out _ _ _).mono ?_); (rintro e y1 ⟨rfl, hb1'⟩); (have h1 : Below W0.heap.size W0 y1 := below_up (by first | exact (Below.refl _ _).drew | exact ((Below.refl _ _).alloc (Nat.le_refl _) _).drew | exact ((Below.refl _ _).drew.alloc (Nat.le_refl _) _)) hb1'); (first | (have e1 : RatAt y1 W0.heap.size ⟨#[]⟩ ⟨#[]⟩ := ratAt_alloc (W := W0) (t := 23) ⟨hb1'.os, hb1'.tape, hb1'.output, hb1'.size, hb1'.block⟩) | (have e1 : RatAt y1 W0.heap.size ⟨#[]⟩ ⟨#[]⟩ := ratAt_alloc (W := W0.drew) (t := 23) hb1') | skip)) | (go_at_call 40; (refine (CS.out _ (HR.out.below (below_up P1.out (by first | exact h1 | exact h1.alloc h1.size _)))).mono ?_); (rintro e y2 ⟨rfl, hb2'⟩); (have h2 : Below W0.heap.size W0 y2 := below_up (by first | exact h1 | exact h1.alloc h1.size _) hb2'); (first | ((have e2 := RatAt.below e1 hb2'); (obtain ⟨q1, q2, q3, q4⟩ := e2)) | ((have e2 := ratAt_alloc (W := y1) hb2'); (obtain ⟨q1, q2, q3, q4⟩ := e2)) | skip)))
    all_goals (go_wp2_with fail; go_meet; exact ⟨rfl, _, rfl, by first | exact ratAt_of (heap_alloc_new _ _) | exact ratAt_set (n := ⟨#[]⟩) (d := ⟨#[]⟩) ⟨q1, q2, q3, q4⟩, by first | exact h2.alloc h2.size _ | exact (h2.setCell (p := _) (by first | exact Nat.le_refl _ | exact h1.size) _).setCell (p := _) (by first | exact Nat.le_refl _ | exact h1.size) _⟩)
  case rest =>
    obtain ⟨rfl, AD, rfl, hrat, hbx⟩ := hcut
    generalize wc = z2 at *
    have B2 := Lib.hid hbx.out
    have P2 := Lib.hid (below_up P1.out hbx.out)
    have F2 := Lib.hid (fun W (b : Below z2.heap.size z2 W) => RatAt.below hrat.out b)
    clear hbx hrat
    obtain ⟨qs0, qs1, qs2, qs3⟩ := F2.out _ (Below.refl _ _)
    obtain ⟨qt0, qt1, qt2, qt3⟩ := FZ.out _ B2.out
    go_wp2_with fail
    refine bodyPost_ret (v := .agg #[.string X, .string Y]) (by simp [results, Tryz.results42, go_sem, qt0, qt1]) rfl ⟨rfl, ?_⟩
    exact (P2.out.setCell (p := ⟨w.heap.size + 1, 0, none⟩) (show w.heap.size ≤ w.heap.size + 1 by omega) _).setCell (p := ⟨w.heap.size + 1, 1, none⟩) (show w.heap.size ≤ w.heap.size + 1 by omega) _
end Go.Proofs.YtlcibnmcannapaaGreatDoor
