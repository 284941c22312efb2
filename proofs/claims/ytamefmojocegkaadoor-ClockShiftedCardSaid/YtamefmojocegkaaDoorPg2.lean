/-
  Layer 8: the reference's Example, its slices' room told too.
-/
import Derived.Test.YtamefmojocegkaaDoorK05
import Derived.Test.YtamefmojocegkaaDoorJd2
namespace Go.Proofs.YtamefmojocegkaaDoor
open Go Go.Proofs Go.RowKit Go.Lib Go.Sort

def ExPost2 (w : World) (f : Fl) (l : List Hp) (e : Ending) (w' : World) : Prop := ∃ a1 c1 a2 c2 a3 c3 a4 c4 a5 c5, e = .returned (.tuple #[.agg #[.slice a1 f.dr.length c1, .int .i64 f.lat, .int .i64 f.lia, .slice a2 f.sv.length c2, .slice a3 f.tm.length c3], .slice a4 l.length c4, .slice a5 l.length c5]) ∧ RN KI w' w.heap.size a1 f.dr ∧ RN KI w' w.heap.size a2 f.sv ∧ RN KI w' w.heap.size a3 f.tm ∧ Capd a4 l.length c4 ∧ Capd a5 l.length c5 ∧ RN KE w' w.heap.size a4 (l.map (·.e)) ∧ RN KI w' w.heap.size a5 (l.map (·.t)) ∧ Below w.heap.size w w'
set_option maxRecDepth 100000 in
set_option maxHeartbeats 16000000 in
theorem exampleR2_any (n : Int) (ad : Option Addr) (c : Nat) (l : List D4) (h0 : -9223372036854775808 ≤ n) (h1 : n ≤ 9223372036854775807) (hl : l.length ≤ maxLen) (hdi : ∀ d ∈ l, d.fit) (w : World) (hI : RL KD w ad l) :
    Calls Tryd.prog 12 #[.int .i64 n, .slice ad l.length c] w (ExPost2 w (fleetN n) (exN n l)) := by
  have HI := Lib.hid hI
  have HDI := Lib.hid (And.intro hl hdi)
  have HFC := Lib.hid (fun W => fleetR_any n h0 h1 W)
  have HCC := Lib.hid (fun v W hf => clocksR_any v (fleetN n) n (by rw [fleetN_len]; have := agN_bd n; omega) h0 h1 W hf)
  have HPA := Lib.hid (fun W => pickS8 h0 h1 (n := 100) (by decide) (by decide) W)
  have HPB := Lib.hid (fun W => pickS8 h0 h1 (n := 1000000) (by decide) (by decide) W)
  have HPC := Lib.hid (fun W => pickS8 h0 h1 (n := 21) (by decide) (by decide) W)
  have HPD := Lib.hid (fun W => pickR8_any n 100 h0 h1 (by decide) (by decide) W)
  have a0 := pick8_lo (c := n) (n := 100) (by decide)
  have a1 := pick8_hi (c := n) (n := 100) (by decide)
  have b0 := pick8_lo (c := n) (n := 1000000) (by decide)
  have b1 := pick8_hi (c := n) (n := 1000000) (by decide)
  have c0 := pick8_lo (c := n) (n := 21) (by decide)
  have c1 := pick8_hi (c := n) (n := 21) (by decide)
  have hwb : IntKind.i64.wrap (2000000 + pick8 n 1000000) = 2000000 + pick8 n 1000000 := wrapq8 (by omega)
  have hwc : IntKind.i64.wrap (pick8 n 21 - 1) = pick8 n 21 - 1 := wrapq8 (by omega)
  have hag := agN_bd n
  obtain ⟨w0, V0, Z0, K0, B0⟩ := lay8 w [.slice none 0 0, .int .i64 0, .int .i64 0, .slice none 0 0, .slice none 0 0] 24
  have V0 := (show w.alloc (.cells #[.slice none 0 0, .int .i64 0, .int .i64 0, .slice none 0 0, .slice none 0 0] 24) = w0 from V0)
  go_enter Tryd.func12, Tryd.ntmps12
  go_upto_region 1 with fail
  have HK0 := Lib.hid K0
  have HB0 := Lib.hid B0
  have HZ0 := Lib.hid Z0
  clear V0 K0 B0 Z0 hI hdi
  go_wp2_with fail
  refine (HFC.out _).mono ?_
  rintro e w1 ⟨x1, k1, x2, k2, x3, k3, rfl, r1, r2, r3, hb1⟩
  have HR1 := Lib.hid (And.intro r1 (And.intro r2 r3))
  have HB1 := Lib.hid hb1
  clear r1 r2 r3 hb1 HFC
  obtain ⟨f, hf⟩ : ∃ f, f = fleetN n := ⟨_, rfl⟩
  have HF := Lib.hid hf
  have hN : f.dr.length = agN n := by rw [hf]; exact fleetN_len n
  have hS : f.sv.length = 6 := by rw [hf]; rfl
  have HN := Lib.hid (And.intro hN hS)
  clear hN hS
  rw [← hf] at HR1 HCC ⊢
  have hlat : f.lat = latT (pick8 n 4) := by rw [hf]; rfl
  have HLAT := Lib.hid (show 0 ≤ f.lat ∧ f.lat ≤ 1000000 from by rw [hlat]; exact latT_bd _)
  clear hf hlat
  obtain ⟨w2, V2, Z2, K2, B2⟩ := lay8 w1 [.slice x1 f.dr.length k1, .int .i64 f.lat, .int .i64 f.lia, .slice x2 f.sv.length k2, .slice x3 f.tm.length k3] 24
  have V2 := (show w1.alloc (.cells #[.slice x1 f.dr.length k1, .int .i64 f.lat, .int .i64 f.lia, .slice x2 f.sv.length k2, .slice x3 f.tm.length k3] 24) = w2 from V2)
  go_upto_region 2 with fail
  clear V2
  have HK2 := Lib.hid K2
  have HB2 := Lib.hid (show Below w.heap.size w w2 from HB0.out.trans ((HB1.out.trans (B2.mono HB1.out.size)).mono (by have := HZ0.out; omega)))
  have HFA := Lib.hid (show FlAt w2 (.agg #[.slice x1 f.dr.length k1, .int .i64 f.lat, .int .i64 f.lia, .slice x2 f.sv.length k2, .slice x3 f.tm.length k3]) f from ⟨x1, k1, x2, k2, x3, k3, rfl, HR1.out.1.rl.below B2, HR1.out.2.1.rl.below B2, HR1.out.2.2.rl.below B2⟩)
  have HRN := Lib.hid (show RN KI w2 (w.heap.size + 1) x1 f.dr ∧ RN KI w2 (w.heap.size + 1) x2 f.sv ∧ RN KI w2 (w.heap.size + 1) x3 f.tm from by
    have hz := HZ0.out
    exact ⟨(HR1.out.1.below B2).base (by omega), (HR1.out.2.1.below B2).base (by omega), (HR1.out.2.2.below B2).base (by omega)⟩)
  have HK02 := Lib.hid (show CellsAt w2 w.heap.size [.slice none 0 0, .int .i64 0, .int .i64 0, .slice none 0 0, .slice none 0 0] from (HK0.out.below HB1.out).below (B2.mono (Nat.le_refl _)))
  have HI2 := Lib.hid (HI.out.below HB2.out)
  have HZ12 := Lib.hid (show w.heap.size < w1.heap.size ∧ w1.heap.size < w2.heap.size from by have := HB1.out.size; have := HZ0.out; omega)
  clear K2 B2 Z2 HR1 HB1 HK0 HB0 HZ0
  generalize w1.heap.size = Q at *
  refine wp_region_noPanic ?_
  refine wp_region_Kx (C := NewR w2) [16] 16 #[false, false, false, false, false, false, false, false, false, false, false, false, false, false, false, false, false] (by kernel_rfl) (by kernel_rfl) (by kernel_rfl) (newR0 _) ?_
  intro wx hwx
  refine wpAnyK_ex (i := 0) rfl (by kernel_rfl) (listed' := #[true, false, false, false, false, false, false, false, false, false, false, false, false, false, false, false, false]) rfl (fun _ _ _ _ _ h => h) hwx ?_
  apply Exists.intro
  refine ⟨⟨by kernel_rfl, fun wy hw => ?_⟩, ?_⟩
  · (have bw := hw.below; have f0 := (show wy.cell? ⟨Q, 0, none⟩ = some (.slice x1 f.dr.length k1) from (HK2.out.below bw 0 (by simp)).1); have f1 := (show wy.cell? ⟨Q, 1, none⟩ = some (.int .i64 f.lat) from (HK2.out.below bw 1 (by simp)).1); have f2 := (show wy.cell? ⟨Q, 2, none⟩ = some (.int .i64 f.lia) from (HK2.out.below bw 2 (by simp)).1); have f3 := (show wy.cell? ⟨Q, 3, none⟩ = some (.slice x2 f.sv.length k2) from (HK2.out.below bw 3 (by simp)).1); have f4 := (show wy.cell? ⟨Q, 4, none⟩ = some (.slice x3 f.tm.length k3) from (HK2.out.below bw 4 (by simp)).1); go_simp; try (first | (with_reducible rfl) | (with_reducible exact ⟨rfl, rfl⟩)))
  try simp only [Act.put, List.getElem_toArray, List.getElem_cons_zero, List.setIfInBounds_toArray, List.set_cons_succ, List.set_cons_zero]
  refine wpAnyK_ex (i := 1) rfl (by kernel_rfl) (listed' := #[true, true, false, false, false, false, false, false, false, false, false, false, false, false, false, false, false]) rfl (fun _ _ _ _ _ h => h) hwx ?_
  apply Exists.intro
  refine ⟨⟨by kernel_rfl, fun wy hw => ?_⟩, ?_⟩
  · (have bw := hw.below; have f0 := (show wy.cell? ⟨Q, 0, none⟩ = some (.slice x1 f.dr.length k1) from (HK2.out.below bw 0 (by simp)).1); have f1 := (show wy.cell? ⟨Q, 1, none⟩ = some (.int .i64 f.lat) from (HK2.out.below bw 1 (by simp)).1); have f2 := (show wy.cell? ⟨Q, 2, none⟩ = some (.int .i64 f.lia) from (HK2.out.below bw 2 (by simp)).1); have f3 := (show wy.cell? ⟨Q, 3, none⟩ = some (.slice x2 f.sv.length k2) from (HK2.out.below bw 3 (by simp)).1); have f4 := (show wy.cell? ⟨Q, 4, none⟩ = some (.slice x3 f.tm.length k3) from (HK2.out.below bw 4 (by simp)).1); go_simp; try (first | (with_reducible rfl) | (with_reducible exact ⟨rfl, rfl⟩)))
  try simp only [Act.put, List.getElem_toArray, List.getElem_cons_succ, List.getElem_cons_zero, List.setIfInBounds_toArray, List.set_cons_succ, List.set_cons_zero]
  refine wpAnyK_ex (i := 2) rfl (by kernel_rfl) (listed' := #[true, true, true, false, false, false, false, false, false, false, false, false, false, false, false, false, false]) rfl (fun _ _ _ _ _ h => h) hwx ?_
  apply Exists.intro
  refine ⟨⟨by kernel_rfl, fun wy hw => ?_⟩, ?_⟩
  · (have bw := hw.below; go_simp; try (first | (with_reducible rfl) | (with_reducible exact ⟨rfl, rfl⟩)))
  try simp only [Act.put, List.getElem_toArray, List.getElem_cons_succ, List.getElem_cons_zero, List.setIfInBounds_toArray, List.set_cons_succ, List.set_cons_zero]
  refine wpAnyK_ex (i := 4) rfl (by kernel_rfl) (listed' := #[true, true, true, false, true, false, false, false, false, false, false, false, false, false, false, false, false]) rfl (fun _ _ _ _ _ h => h) hwx ?_
  apply Exists.intro
  refine ⟨⟨by kernel_rfl, fun wy hw => ?_⟩, ?_⟩
  · (have bw := hw.below; have f0 := (show wy.cell? ⟨Q, 0, none⟩ = some (.slice x1 f.dr.length k1) from (HK2.out.below bw 0 (by simp)).1); have f1 := (show wy.cell? ⟨Q, 1, none⟩ = some (.int .i64 f.lat) from (HK2.out.below bw 1 (by simp)).1); have f2 := (show wy.cell? ⟨Q, 2, none⟩ = some (.int .i64 f.lia) from (HK2.out.below bw 2 (by simp)).1); have f3 := (show wy.cell? ⟨Q, 3, none⟩ = some (.slice x2 f.sv.length k2) from (HK2.out.below bw 3 (by simp)).1); have f4 := (show wy.cell? ⟨Q, 4, none⟩ = some (.slice x3 f.tm.length k3) from (HK2.out.below bw 4 (by simp)).1); go_simp; try (first | (with_reducible rfl) | (with_reducible exact ⟨rfl, rfl⟩)))
  try simp only [Act.put, List.getElem_toArray, List.getElem_cons_succ, List.getElem_cons_zero, List.setIfInBounds_toArray, List.set_cons_succ, List.set_cons_zero]
  refine wpAnyK_ex (i := 5) rfl (by kernel_rfl) (listed' := #[true, true, true, false, true, true, false, false, false, false, false, false, false, false, false, false, false]) rfl (fun _ _ _ _ _ h => h) hwx ?_
  apply Exists.intro
  refine ⟨⟨by kernel_rfl, fun wy hw => ?_⟩, ?_⟩
  · (have bw := hw.below; go_simp; try (first | (with_reducible rfl) | (with_reducible exact ⟨rfl, rfl⟩)))
  try simp only [Act.put, List.getElem_toArray, List.getElem_cons_succ, List.getElem_cons_zero, List.setIfInBounds_toArray, List.set_cons_succ, List.set_cons_zero]
  refine wpAnyK_ex (i := 7) rfl (by kernel_rfl) (listed' := #[true, true, true, false, true, true, false, true, false, false, false, false, false, false, false, false, false]) rfl (fun _ _ _ _ _ h => h) hwx ?_
  apply Exists.intro
  refine ⟨⟨by kernel_rfl, fun wy hw => ?_⟩, ?_⟩
  · (have bw := hw.below; go_simp; try (first | (with_reducible rfl) | (with_reducible exact ⟨rfl, rfl⟩)))
  try simp only [Act.put, List.getElem_toArray, List.getElem_cons_succ, List.getElem_cons_zero, List.setIfInBounds_toArray, List.set_cons_succ, List.set_cons_zero]
  refine wpAnyK_ex (i := 10) rfl (by kernel_rfl) (listed' := #[true, true, true, false, true, true, false, true, false, false, true, false, false, false, false, false, false]) rfl (fun _ _ _ _ _ h => h) hwx ?_
  apply Exists.intro
  refine ⟨⟨by kernel_rfl, fun wy hw => ?_⟩, ?_⟩
  · (have bw := hw.below; go_simp; try (first | (with_reducible rfl) | (with_reducible exact ⟨rfl, rfl⟩)))
  try simp only [Act.put, List.getElem_toArray, List.getElem_cons_succ, List.getElem_cons_zero, List.setIfInBounds_toArray, List.set_cons_succ, List.set_cons_zero]
  refine wpAnyK_ex (i := 13) rfl (by kernel_rfl) (listed' := #[true, true, true, false, true, true, false, true, false, false, true, false, false, true, false, false, false]) rfl (fun _ _ _ _ _ h => h) hwx ?_
  apply Exists.intro
  refine ⟨⟨by kernel_rfl, fun wy hw => ?_⟩, ?_⟩
  · (have bw := hw.below; go_simp; try (first | (with_reducible rfl) | (with_reducible exact ⟨rfl, rfl⟩)))
  try simp only [Act.put, List.getElem_toArray, List.getElem_cons_succ, List.getElem_cons_zero, List.setIfInBounds_toArray, List.set_cons_succ, List.set_cons_zero]
  refine wpAnyK_fork1 3 (by kernel_rfl) ?_
  refine wpOpK_step rfl (by kernel_rfl) (listed' := #[true, true, true, true, true, true, false, true, false, false, true, false, false, true, false, false, false]) rfl (by kernel_rfl) (fun K hK => ?_)
  go_simp
  refine (HCC.out _ _ (HFA.out.below hwx.below)).mono ?_
  rintro e x3' ⟨adk, ck, row, lv, rfl, hlc, hrk, hlk, hck, hb⟩
  have HX3 := Lib.hid (below_up8 (hwx.below) hb)
  refine hK _ _ HX3.out ?_
  clear hK K
  try simp only [Act.put, List.getElem_toArray, List.getElem_cons_succ, List.getElem_cons_zero, List.setIfInBounds_toArray, List.set_cons_succ, List.set_cons_zero]
  have HCK := Lib.hid (show CksOk x3' adk lv (cksN n) from cks_of hrk (by rw [← HF.out]; exact hlk) (by rw [← HF.out]; exact hck))
  have HLK := Lib.hid hlk
  clear hlc hrk hlk hck hb
  refine wpAnyK_callx (i := 6) rfl (by kernel_rfl) (listed' := #[true, true, true, true, true, true, true, true, false, false, true, false, false, true, false, false, false]) rfl (fun _ _ _ _ _ h => h) HX3.out ?_
  apply Exists.intro
  apply Exists.intro
  apply Exists.intro
  refine ⟨⟨by kernel_rfl, fun wy hw => ?_, fun wy hw => ?_⟩, ?_⟩
  · (have bw := hw.below; go_simp; try (first | (with_reducible rfl) | (with_reducible exact ⟨rfl, rfl⟩)))
  · (exact HPA.out _)
  try simp only [Act.put, List.getElem_toArray, List.getElem_cons_succ, List.getElem_cons_zero, List.setIfInBounds_toArray, List.set_cons_succ, List.set_cons_zero]
  refine wpAnyK_callx (i := 8) rfl (by kernel_rfl) (listed' := #[true, true, true, true, true, true, true, true, true, false, true, false, false, true, false, false, false]) rfl (fun _ _ _ _ _ h => h) HX3.out ?_
  apply Exists.intro
  apply Exists.intro
  apply Exists.intro
  refine ⟨⟨by kernel_rfl, fun wy hw => ?_, fun wy hw => ?_⟩, ?_⟩
  · (have bw := hw.below; go_simp; try (first | (with_reducible rfl) | (with_reducible exact ⟨rfl, rfl⟩)))
  · (exact HPB.out _)
  try simp only [Act.put, List.getElem_toArray, List.getElem_cons_succ, List.getElem_cons_zero, List.setIfInBounds_toArray, List.set_cons_succ, List.set_cons_zero]
  refine wpAnyK_ex (i := 9) rfl (by kernel_rfl) (listed' := #[true, true, true, true, true, true, true, true, true, true, true, false, false, true, false, false, false]) rfl (fun _ _ _ _ _ h => h) HX3.out ?_
  apply Exists.intro
  refine ⟨⟨by kernel_rfl, fun wy hw => ?_⟩, ?_⟩
  · (have bw := hw.below; go_simp; try (first | (with_reducible rfl) | (with_reducible exact ⟨rfl, rfl⟩)))
  try simp only [Act.put, List.getElem_toArray, List.getElem_cons_succ, List.getElem_cons_zero, List.setIfInBounds_toArray, List.set_cons_succ, List.set_cons_zero]
  refine wpAnyK_callx (i := 11) rfl (by kernel_rfl) (listed' := #[true, true, true, true, true, true, true, true, true, true, true, true, false, true, false, false, false]) rfl (fun _ _ _ _ _ h => h) HX3.out ?_
  apply Exists.intro
  apply Exists.intro
  apply Exists.intro
  refine ⟨⟨by kernel_rfl, fun wy hw => ?_, fun wy hw => ?_⟩, ?_⟩
  · (have bw := hw.below; go_simp; try (first | (with_reducible rfl) | (with_reducible exact ⟨rfl, rfl⟩)))
  · (exact HPC.out _)
  try simp only [Act.put, List.getElem_toArray, List.getElem_cons_succ, List.getElem_cons_zero, List.setIfInBounds_toArray, List.set_cons_succ, List.set_cons_zero]
  refine wpAnyK_ex (i := 12) rfl (by kernel_rfl) (listed' := #[true, true, true, true, true, true, true, true, true, true, true, true, true, true, false, false, false]) rfl (fun _ _ _ _ _ h => h) HX3.out ?_
  apply Exists.intro
  refine ⟨⟨by kernel_rfl, fun wy hw => ?_⟩, ?_⟩
  · (have bw := hw.below; go_simp; try (first | (with_reducible rfl) | (with_reducible exact ⟨rfl, rfl⟩)))
  try simp only [Act.put, List.getElem_toArray, List.getElem_cons_succ, List.getElem_cons_zero, List.setIfInBounds_toArray, List.set_cons_succ, List.set_cons_zero]
  have HMX := Lib.hid (show madeN f.lat f.dr.length f.sv.length (pick8 n 100) (2000000 + pick8 n 1000000) (pick8 n 21 - 1) l = hpsN n l from by rw [HN.out.1, HN.out.2, HF.out]; rfl)
  have HMC := Lib.hid (fun W hW => show Calls Tryd.prog 37 #[.agg #[.slice x1 f.dr.length k1, .int .i64 f.lat, .int .i64 f.lia, .slice x2 f.sv.length k2, .slice x3 f.tm.length k3], .int .i64 (pick8 n 100), .int .i64 (2000000 + pick8 n 1000000), .int .i64 (pick8 n 21 - 1), .slice ad l.length c] W (HpsPost W (hpsN n l)) from by rw [← HMX.out]; exact madeR_any ⟨x1, f.dr.length, k1, f.lat, f.lia, x2, f.sv.length, k2, x3, f.tm.length, k3, none, .cells #[] 24⟩ rfl (pick8 n 100) (2000000 + pick8 n 1000000) (pick8 n 21 - 1) ad c l (by show 1 ≤ f.dr.length; rw [HN.out.1]; omega) (by show f.dr.length ≤ 6; rw [HN.out.1]; omega) (by show 1 ≤ f.sv.length; rw [HN.out.2]; omega) (by show f.sv.length ≤ 1000; rw [HN.out.2]; omega) HLAT.out.1 HLAT.out.2 a0 (by omega) (by omega) (by omega) HDI.out.1 HDI.out.2 W hW)
  refine wpAnyK_fork1 14 (by kernel_rfl) ?_
  refine wpOpK_step rfl (by kernel_rfl) (listed' := #[true, true, true, true, true, true, true, true, true, true, true, true, true, true, true, false, false]) rfl (by kernel_rfl) (fun K hK => ?_)
  go_simp
  refine (HMC.out _ (HI2.out.below HX3.out)).mono ?_
  rintro e x14' ⟨adm, cm, rfl, hnm, hrm, hb⟩
  have HX14 := Lib.hid (below_up8 (HX3.out) hb)
  refine hK _ _ HX14.out ?_
  clear hK K
  try simp only [Act.put, List.getElem_toArray, List.getElem_cons_succ, List.getElem_cons_zero, List.setIfInBounds_toArray, List.set_cons_succ, List.set_cons_zero]
  have HRM := Lib.hid hrm
  have HCK2 := Lib.hid (HCK.out.below hb)
  clear hrm hb HMC HMX
  obtain ⟨sm, hsm, him, hl24, hnowm⟩ := made_ok (latT_bd (pick8 n 4)).1 (latT_bd (pick8 n 4)).2 (agN n) 6 (by omega) (by decide) (pick8 n 100) (2000000 + pick8 n 1000000) (pick8 n 21 - 1) (by omega) (by omega) l
  have hsm := (show hpsN n l = sm.out from hsm)
  have HSE := Lib.hid (show strN (cksN n) (List.replicate f.dr.length []) (hpsN n l) = stN n l from by rw [HN.out.1]; rfl)
  have HSC := Lib.hid (fun W h1 h2 => show Calls Tryd.prog 36 #[.agg #[.slice x1 f.dr.length k1, .int .i64 f.lat, .int .i64 f.lia, .slice x2 f.sv.length k2, .slice x3 f.tm.length k3], .slice adk lv.length ck, .slice adm (hpsN n l).length cm] W (StPost W (stN n l)) from by rw [← HSE.out]; exact streamsR_any x1 x2 x3 adk adm f.dr.length k1 f.sv.length k2 f.tm.length k3 ck cm f.lat f.lia lv (cksN n) (hpsN n l) (by rw [HN.out.1]; omega) (by rw [cksN_len, HN.out.1]) (by rw [hsm]; omega) hnm (by rw [hsm]; exact him.out.srt.imp fun h => Int.le_of_lt h) W h1 h2)
  have hlm : (hpsN n l).length ≤ 24 := by rw [hsm]; exact hl24
  clear him hnm hsm hl24 hnowm
  refine wpAnyK_fork1 15 (by kernel_rfl) ?_
  refine wpOpK_step rfl (by kernel_rfl) (listed' := #[true, true, true, true, true, true, true, true, true, true, true, true, true, true, true, true, false]) rfl (by kernel_rfl) (fun K hK => ?_)
  go_simp
  refine (HSC.out _ HCK2.out HRM.out.rl).mono ?_
  rintro e x15 ⟨O, rfl, hst, hb⟩
  have HX15 := Lib.hid (below_up8 (HX14.out) hb)
  refine hK _ _ HX15.out ?_
  clear hK K
  try simp only [Act.put, List.getElem_toArray, List.getElem_cons_succ, List.getElem_cons_zero, List.setIfInBounds_toArray, List.set_cons_succ, List.set_cons_zero]
  refine wpAnyK_end (by kernel_rfl) ?_
  try simp only [pickOps, List.filterMap_cons, List.filterMap_nil, List.getElem?_toArray, List.getElem?_cons_succ, List.getElem?_cons_zero]
  have HST := Lib.hid hst
  have HL2 := Lib.hid (show (stN n l).length ≤ 1000 ∧ (∀ i, ((stN n l).getD i []).length ≤ 10000) ∧ (ofL (stN n l) (pick8 n 100)).length ≤ 10000000 from by
    have hso := StrOk.all (cs := cksN n) (hpsN n l) [] (List.replicate (agN n) []) (strOk0 (cksN n) (agN n)) (by
      obtain ⟨sm, hsm, him, _⟩ := made_ok (latT_bd (pick8 n 4)).1 (latT_bd (pick8 n 4)).2 (agN n) 6 (by omega) (by decide) (pick8 n 100) (2000000 + pick8 n 1000000) (pick8 n 21 - 1) (by omega) (by omega) l
      rw [List.nil_append, show hpsN n l = sm.out from hsm]
      exact him.out.srt.imp fun h => Int.le_of_lt h)
    have hs2 := hso.sum
    rw [List.nil_append] at hs2
    have hlen : (stN n l).length = agN n := by unfold stN; rw [strN_len]; simp
    refine ⟨by omega, fun i => ?_, by have := (ex_ok n l).1; unfold exN at this; omega⟩
    rcases Nat.lt_or_ge i (stN n l).length with h | h
    · rw [getD_of8 h]
      have := le_sum8 ((stN n l).map List.length) i (by simpa using h)
      rw [List.getElem_map] at this
      have hs3 : ((stN n l).map List.length).sum ≤ (hpsN n l).length := hs2
      omega
    · rw [List.getD_eq_getElem?_getD, List.getElem?_eq_none h]; exact Nat.zero_le _)
  clear hst hb hlm HSC HRM HCK2 HCK HX3 HX14
  have HB15 := Lib.hid (below_up8 HB2.out HX15.out)
  go_wp2_with fail
  refine NoPanic.normal ?_
  go_wp2_with (first | (go_at_call 38; refine (HPD.out _).mono ?_; rintro e z ⟨rfl, rfl⟩))
  refine (ofR2_any (some ⟨O, 0, none⟩) (stN n l).length (stN n l) (pick8 n 100) HL2.out.1 HL2.out.2.1 HL2.out.2.2 _ HST.out).mono ?_
  rintro e w4 ⟨a4, c4, a5, c5, rfl, hn4, hn5, hr4, hr5, hb⟩
  have HR4 := Lib.hid (And.intro hn4 (And.intro hn5 (And.intro hr4 hr5)))
  have HB4 := Lib.hid hb
  have HX4 := Lib.hid (below_up8 HX15.out hb)
  have HLN := Lib.hid (show (ofL (stN n l) (pick8 n 100)).length = (exN n l).length from rfl)
  have HK4 := Lib.hid (HK2.out.below HX4.out)
  have HK04 := Lib.hid (HK02.out.below HX4.out)
  clear hn4 hn5 hr4 hr5 hb
  rw [HLN.out]
  have f0 := (show w4.cell? ⟨Q, 0, none⟩ = some (.slice x1 f.dr.length k1) from (HK4.out 0 (by simp)).1)
  have f1 := (show w4.cell? ⟨Q, 1, none⟩ = some (.int .i64 f.lat) from (HK4.out 1 (by simp)).1)
  have f2 := (show w4.cell? ⟨Q, 2, none⟩ = some (.int .i64 f.lia) from (HK4.out 2 (by simp)).1)
  have f3 := (show w4.cell? ⟨Q, 3, none⟩ = some (.slice x2 f.sv.length k2) from (HK4.out 3 (by simp)).1)
  have f4 := (show w4.cell? ⟨Q, 4, none⟩ = some (.slice x3 f.tm.length k3) from (HK4.out 4 (by simp)).1)
  have z0 := (show w4.cell? ⟨w.heap.size, 0, none⟩ = some (.slice none 0 0) from (HK04.out 0 (by simp)).1)
  have y0 := (HK04.out 0 (by simp)).2
  have z1 := (show w4.cell? ⟨w.heap.size, 1, none⟩ = some (.int .i64 0) from (HK04.out 1 (by simp)).1)
  have y1 := (HK04.out 1 (by simp)).2
  have z2 := (show w4.cell? ⟨w.heap.size, 2, none⟩ = some (.int .i64 0) from (HK04.out 2 (by simp)).1)
  have y2 := (HK04.out 2 (by simp)).2
  have z3 := (show w4.cell? ⟨w.heap.size, 3, none⟩ = some (.slice none 0 0) from (HK04.out 3 (by simp)).1)
  have y3 := (HK04.out 3 (by simp)).2
  have z4 := (show w4.cell? ⟨w.heap.size, 4, none⟩ = some (.slice none 0 0) from (HK04.out 4 (by simp)).1)
  have y4 := (HK04.out 4 (by simp)).2
  go_wp2_with fail
  obtain ⟨WF, hWF⟩ : ∃ WF, WF = (((((w4.setCell ⟨w.heap.size, 0, none⟩ (.slice x1 f.dr.length k1)).setCell ⟨w.heap.size, 1, none⟩ (.int .i64 f.lat)).setCell ⟨w.heap.size, 2, none⟩ (.int .i64 f.lia)).setCell ⟨w.heap.size, 3, none⟩ (.slice x2 f.sv.length k2)).setCell ⟨w.heap.size, 4, none⟩ (.slice x3 f.tm.length k3)) := ⟨_, rfl⟩
  rw [← hWF]
  have HKF := Lib.hid (show CellsAt WF w.heap.size [.slice x1 f.dr.length k1, .int .i64 f.lat, .int .i64 f.lia, .slice x2 f.sv.length k2, .slice x3 f.tm.length k3] from by rw [hWF]; exact (((((HK04.out.put 0 (.slice x1 f.dr.length k1)).put 1 (.int .i64 f.lat)).put 2 (.int .i64 f.lia)).put 3 (.slice x2 f.sv.length k2)).put 4 (.slice x3 f.tm.length k3)))
  have HB4W := Lib.hid (show Below w.heap.size w w4 from below_up8 HB15.out HB4.out)
  have HBF := Lib.hid (show Below w.heap.size w WF from by rw [hWF]; exact (((((HB4W.out.setCell (p := ⟨w.heap.size, 0, none⟩) (Nat.le_refl _) (.slice x1 f.dr.length k1)).setCell (p := ⟨w.heap.size, 1, none⟩) (Nat.le_refl _) (.int .i64 f.lat)).setCell (p := ⟨w.heap.size, 2, none⟩) (Nat.le_refl _) (.int .i64 f.lia)).setCell (p := ⟨w.heap.size, 3, none⟩) (Nat.le_refl _) (.slice x2 f.sv.length k2)).setCell (p := ⟨w.heap.size, 4, none⟩) (Nat.le_refl _) (.slice x3 f.tm.length k3)))
  have hx15 : w.heap.size < x15.heap.size := by have := HX15.out.size; have := HZ12.out; omega
  have HP := Lib.hid (show ExPost2 w f (exN n l) (.returned (.tuple #[.agg #[.slice x1 f.dr.length k1, .int .i64 f.lat, .int .i64 f.lia, .slice x2 f.sv.length k2, .slice x3 f.tm.length k3], .slice a4 (exN n l).length c4, .slice a5 (exN n l).length c5])) WF from by
    refine ⟨x1, k1, x2, k2, x3, k3, a4, c4, a5, c5, rfl, ?_, ?_, ?_, HR4.out.1, HR4.out.2.1, ?_, ?_, HBF.out⟩
    · rw [hWF]; exact ((((((HRN.out.1.below HX4.out).far (B := w.heap.size) (i := 0) (u := .slice x1 f.dr.length k1) (Nat.lt_succ_self _)).far (B := w.heap.size) (i := 1) (u := .int .i64 f.lat) (Nat.lt_succ_self _)).far (B := w.heap.size) (i := 2) (u := .int .i64 f.lia) (Nat.lt_succ_self _)).far (B := w.heap.size) (i := 3) (u := .slice x2 f.sv.length k2) (Nat.lt_succ_self _)).far (B := w.heap.size) (i := 4) (u := .slice x3 f.tm.length k3) (Nat.lt_succ_self _)).base (Nat.le_succ _)
    · rw [hWF]; exact ((((((HRN.out.2.1.below HX4.out).far (B := w.heap.size) (i := 0) (u := .slice x1 f.dr.length k1) (Nat.lt_succ_self _)).far (B := w.heap.size) (i := 1) (u := .int .i64 f.lat) (Nat.lt_succ_self _)).far (B := w.heap.size) (i := 2) (u := .int .i64 f.lia) (Nat.lt_succ_self _)).far (B := w.heap.size) (i := 3) (u := .slice x2 f.sv.length k2) (Nat.lt_succ_self _)).far (B := w.heap.size) (i := 4) (u := .slice x3 f.tm.length k3) (Nat.lt_succ_self _)).base (Nat.le_succ _)
    · rw [hWF]; exact ((((((HRN.out.2.2.below HX4.out).far (B := w.heap.size) (i := 0) (u := .slice x1 f.dr.length k1) (Nat.lt_succ_self _)).far (B := w.heap.size) (i := 1) (u := .int .i64 f.lat) (Nat.lt_succ_self _)).far (B := w.heap.size) (i := 2) (u := .int .i64 f.lia) (Nat.lt_succ_self _)).far (B := w.heap.size) (i := 3) (u := .slice x2 f.sv.length k2) (Nat.lt_succ_self _)).far (B := w.heap.size) (i := 4) (u := .slice x3 f.tm.length k3) (Nat.lt_succ_self _)).base (Nat.le_succ _)
    · rw [hWF]; exact (((((HR4.out.2.2.1.far (B := w.heap.size) (i := 0) (u := .slice x1 f.dr.length k1) hx15).far (B := w.heap.size) (i := 1) (u := .int .i64 f.lat) hx15).far (B := w.heap.size) (i := 2) (u := .int .i64 f.lia) hx15).far (B := w.heap.size) (i := 3) (u := .slice x2 f.sv.length k2) hx15).far (B := w.heap.size) (i := 4) (u := .slice x3 f.tm.length k3) hx15).base (Nat.le_of_lt hx15)
    · rw [hWF]; exact (((((HR4.out.2.2.2.far (B := w.heap.size) (i := 0) (u := .slice x1 f.dr.length k1) hx15).far (B := w.heap.size) (i := 1) (u := .int .i64 f.lat) hx15).far (B := w.heap.size) (i := 2) (u := .int .i64 f.lia) hx15).far (B := w.heap.size) (i := 3) (u := .slice x2 f.sv.length k2) hx15).far (B := w.heap.size) (i := 4) (u := .slice x3 f.tm.length k3) hx15).base (Nat.le_of_lt hx15))
  clear f0 f1 f2 f3 f4 z0 z1 z2 z3 z4 y0 y1 y2 y3 y4 hWF
  obtain ⟨g0, _⟩ := HKF.out 0 (by simp); obtain ⟨g1, _⟩ := HKF.out 1 (by simp); obtain ⟨g2, _⟩ := HKF.out 2 (by simp); obtain ⟨g3, _⟩ := HKF.out 3 (by simp); obtain ⟨g4, _⟩ := HKF.out 4 (by simp)
  simp only [List.getElem_cons_zero, List.getElem_cons_succ] at g0 g1 g2 g3 g4
  rw [← HF.out]
  exact bodyPost_ret (v := .tuple #[.agg #[.slice x1 f.dr.length k1, .int .i64 f.lat, .int .i64 f.lia, .slice x2 f.sv.length k2, .slice x3 f.tm.length k3], .slice a4 (exN n l).length c4, .slice a5 (exN n l).length c5]) (by simp [results, Tryd.results12, go_sem, g0, g1, g2, g3, g4]) rfl HP.out
end Go.Proofs.YtamefmojocegkaaDoor
