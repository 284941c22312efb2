/-
  Layer 8, the program: agree, areTimesOf.
-/
import Derived.Test.YtifdcfjllonmgaaDoorNo
import Derived.Test.YtifdcfjllonmgaaDoorNb
import Derived.Test.YtifdcfjllonmgaaDoorJa
namespace Go.Proofs.YtifdcfjllonmgaaDoor
open Go Go.Proofs Go.RowKit Go.Lib

/-- A constraint on believed agents alone that times break. -/
def brkB (m : Int) (x : List Int) (c : C4) : Bool := (bits .andNot .i64 c.a m == 0) && decide (c.w < xD x c.t.toNat - xD x c.f.toNat)
def C4.okx (c : C4) (n : Nat) : Prop := 0 ≤ c.f ∧ c.f < (n : Int) ∧ 0 ≤ c.t ∧ c.t < (n : Int)
def timB (x : List Int) : Prop := ∀ i, -17592186044416 ≤ xD x i ∧ xD x i ≤ 17592186044416
set_option maxRecDepth 100000 in
set_option maxHeartbeats 8000000 in
theorem agree1_u (c : C4) (m : Int) (x : List Int) (adx : Option Addr) (cx : Nat) (A B : Nat) (w : World) (hc : c.okx x.length) (hx : timB x) (hA : w.cell? ⟨A, 0, none⟩ = some (.int .i64 m)) (hB : w.cell? ⟨B, 0, none⟩ = some (.slice adx x.length cx)) (hI : RL KI w adx x) :
    Calls Tryd.prog 76 #[.agg #[.int .i64 c.f, .int .i64 c.t, .int .i64 c.w, .int .i64 c.a], .pointer (some ⟨A, 0, none⟩), .pointer (some ⟨B, 0, none⟩)] w fun e w' => e = .returned (.bool (brkB m x c)) ∧ Below w.heap.size w w' := by
  obtain ⟨f0, f1, t0, t1⟩ := hc
  obtain ⟨q, hq⟩ := Int.eq_ofNat_of_zero_le f0
  obtain ⟨p, hp⟩ := Int.eq_ofNat_of_zero_le t0
  have hql : q < x.length := by omega
  have hpl : p < x.length := by omega
  obtain ⟨eb, eo, rfl, heb, hcc⟩ := hI.ints8 (by omega)
  have hiq := fun W => at_int8 eb eo x.length cx q hql W
  have hip := fun W => at_int8 eb eo x.length cx p hpl W
  obtain ⟨q0, q1⟩ := hx q; obtain ⟨p0, p1⟩ := hx p
  obtain ⟨R, hR⟩ : ∃ R, brkB m x c = R := ⟨_, rfl⟩
  rw [hR]
  have HR := Lib.hid (show R = ((bits .andNot .i64 c.a m == 0) && decide (c.w < xD x p - xD x q)) by rw [← hR]; unfold brkB; rw [hp, hq]; rfl)
  obtain ⟨cf, ct, cw, ca⟩ := c
  dsimp only at *
  subst hq hp
  have cq := hcc q hql; have cp := hcc p hpl
  generalize xD x q = xq at *
  generalize xD x p = xp at *
  have hws : IntKind.i64.wrap (xp - xq) = xp - xq := IntWalk.i64_in _ (by omega)
  obtain ⟨w1, V1, Z1, K1, B1⟩ := lay8 w [.int .i64 (q : Int), .int .i64 (p : Int), .int .i64 cw, .int .i64 ca] 64
  have HZ := Lib.hid B1
  have SX := Lib.hid (show ∀ W, Below w1.heap.size w1 W → W.cell? ⟨w.heap.size, 0, none⟩ = some (.int .i64 (q : Int)) ∧ W.cell? ⟨w.heap.size, 1, none⟩ = some (.int .i64 (p : Int)) ∧ W.cell? ⟨w.heap.size, 2, none⟩ = some (.int .i64 cw) ∧ W.cell? ⟨w.heap.size, 3, none⟩ = some (.int .i64 ca) ∧ W.cell? ⟨A, 0, none⟩ = some (.int .i64 m) ∧ W.cell? ⟨B, 0, none⟩ = some (.slice (some ⟨eb, eo, none⟩) x.length cx) ∧ W.cell? ⟨eb, eo + q, none⟩ = some (.int .i64 xq) ∧ W.cell? ⟨eb, eo + p, none⟩ = some (.int .i64 xp) from fun W b =>
    have bw := B1.trans (b.mono B1.size)
    ⟨(K1.below b 0 (by simp)).1, (K1.below b 1 (by simp)).1, (K1.below b 2 (by simp)).1, (K1.below b 3 (by simp)).1, (bw.cell (p := ⟨A, 0, none⟩) (World.block_lt_of_cell? w ⟨A, 0, none⟩ hA)).trans hA, (bw.cell (p := ⟨B, 0, none⟩) (World.block_lt_of_cell? w ⟨B, 0, none⟩ hB)).trans hB, cq W bw, cp W bw⟩)
  have hz := B1.size
  clear hR hI hcc cq cp K1 B1 hA hB heb hx
  go_enter Tryd.func76, Tryd.ntmps76
  go_upto_region 1 with fail
  clear V1
  cases hb1 : (bits .andNot .i64 ca m == 0) with
  | false =>
    have HF := Lib.hid (show R = false by rw [HR.out, hb1]; rfl)
    clear HR
    go_cut [4] from 4 to 25 (fun xv wx => xv = .bool false ∧ Hid (Below w1.heap.size w1 wx))
    case first =>
      have d0 := fun d os => (SX.out _ (below_regrown w1 d os)).1
      have d1 := fun d os => (SX.out _ (below_regrown w1 d os)).2.1
      have d2 := fun d os => (SX.out _ (below_regrown w1 d os)).2.2.1
      have d3 := fun d os => (SX.out _ (below_regrown w1 d os)).2.2.2.1
      have d4 := fun d os => (SX.out _ (below_regrown w1 d os)).2.2.2.2.1
      have d5 := fun d os => (SX.out _ (below_regrown w1 d os)).2.2.2.2.2.1
      have d6 := fun d os => (SX.out _ (below_regrown w1 d os)).2.2.2.2.2.2.1
      have d7 := fun d os => (SX.out _ (below_regrown w1 d os)).2.2.2.2.2.2.2
      refine wp_region_quiet_below (by kernel_rfl) (by kernel_rfl) ?_
      repeat (first | go_big_quiet_step (fail) | quiet_step (fail))
      refine wpQuiet_nil ?_
      intro _ hw'
      obtain ⟨⟨dq, osq⟩, hw''⟩ := hw'
      subst hw''
      go_wp2_with fail
      go_meet
      exact ⟨rfl, Lib.hid (below_regrown _ _ _)⟩
    case rest =>
      obtain ⟨rfl, HB5⟩ := hcut
      generalize wc = w5 at *
      go_wp2_with fail
      go_ret
      exact ⟨by rw [HF.out]; rfl, HZ.out.trans (HB5.out.mono hz)⟩
  | true =>
    by_cases hlt : cw < xp - xq
    · have HF := Lib.hid (show R = true by rw [HR.out, hb1, decide_eq_true hlt]; rfl)
      have hd : decide (cw < xp - xq) = true := decide_eq_true hlt
      clear HR hlt
      go_cut [4] from 4 to 25 (fun xv wx => xv = .bool true ∧ Hid (Below w1.heap.size w1 wx))
      case first =>
        have d0 := fun d os => (SX.out _ (below_regrown w1 d os)).1
        have d1 := fun d os => (SX.out _ (below_regrown w1 d os)).2.1
        have d2 := fun d os => (SX.out _ (below_regrown w1 d os)).2.2.1
        have d3 := fun d os => (SX.out _ (below_regrown w1 d os)).2.2.2.1
        have d4 := fun d os => (SX.out _ (below_regrown w1 d os)).2.2.2.2.1
        have d5 := fun d os => (SX.out _ (below_regrown w1 d os)).2.2.2.2.2.1
        have d6 := fun d os => (SX.out _ (below_regrown w1 d os)).2.2.2.2.2.2.1
        have d7 := fun d os => (SX.out _ (below_regrown w1 d os)).2.2.2.2.2.2.2
        refine wp_region_quiet_below (by kernel_rfl) (by kernel_rfl) ?_
        repeat (first | go_big_quiet_step (fail) | quiet_step (fail))
        refine wpQuiet_nil ?_
        intro _ hw'
        obtain ⟨⟨dq, osq⟩, hw''⟩ := hw'
        subst hw''
        go_wp2_with fail
        go_meet
        exact ⟨rfl, Lib.hid (below_regrown _ _ _)⟩
      case rest =>
        obtain ⟨rfl, HB5⟩ := hcut
        generalize wc = w5 at *
        go_wp2_with fail
        go_ret
        exact ⟨by rw [HF.out]; rfl, HZ.out.trans (HB5.out.mono hz)⟩
    · have HF := Lib.hid (show R = false by rw [HR.out, hb1, decide_eq_false hlt]; rfl)
      have hd : decide (cw < xp - xq) = false := decide_eq_false hlt
      clear HR hlt
      go_cut [4] from 4 to 25 (fun xv wx => xv = .bool false ∧ Hid (Below w1.heap.size w1 wx))
      case first =>
        have d0 := fun d os => (SX.out _ (below_regrown w1 d os)).1
        have d1 := fun d os => (SX.out _ (below_regrown w1 d os)).2.1
        have d2 := fun d os => (SX.out _ (below_regrown w1 d os)).2.2.1
        have d3 := fun d os => (SX.out _ (below_regrown w1 d os)).2.2.2.1
        have d4 := fun d os => (SX.out _ (below_regrown w1 d os)).2.2.2.2.1
        have d5 := fun d os => (SX.out _ (below_regrown w1 d os)).2.2.2.2.2.1
        have d6 := fun d os => (SX.out _ (below_regrown w1 d os)).2.2.2.2.2.2.1
        have d7 := fun d os => (SX.out _ (below_regrown w1 d os)).2.2.2.2.2.2.2
        refine wp_region_quiet_below (by kernel_rfl) (by kernel_rfl) ?_
        repeat (first | go_big_quiet_step (fail) | quiet_step (fail))
        refine wpQuiet_nil ?_
        intro _ hw'
        obtain ⟨⟨dq, osq⟩, hw''⟩ := hw'
        subst hw''
        go_wp2_with fail
        go_meet
        exact ⟨rfl, Lib.hid (below_regrown _ _ _)⟩
      case rest =>
        obtain ⟨rfl, HB5⟩ := hcut
        generalize wc = w5 at *
        go_wp2_with fail
        go_ret
        exact ⟨by rw [HF.out]; rfl, HZ.out.trans (HB5.out.mono hz)⟩
set_option maxRecDepth 100000 in
set_option maxHeartbeats 4000000 in
theorem indexCon_u (p : C4 → Bool) (F : Nat) (lb : Array Value) (ad : Option Addr) (c : Nat) (l : List C4) (hl : l.length ≤ maxLen) (w : World) (hI : RL KC w ad l)
    (eg : ∀ args W, (callFunc F args).run Tryd.prog W = .ok (.enter F args) W)
    (HF : ∀ x ∈ l, ∀ W, Below w.heap.size w W → Calls Tryd.prog F (#[.agg #[.int .i64 x.f, .int .i64 x.t, .int .i64 x.w, .int .i64 x.a]] ++ lb) W fun e W' => e = .returned (.bool (p x)) ∧ Below W.heap.size W W') :
    Calls Tryd.prog 82 #[.slice ad l.length c, .func (.func F) #[] lb] w fun e w' => e = .returned (.int .i64 (idxN p l 0)) ∧ Below w.heap.size w w' := by
  unfold maxLen at hl
  have HC := Lib.hid (fun k hk => hI.c4 k hk)
  have HST := Lib.hid (fun k h => idxN_step p (l := l) (k := k) h)
  have HN := Lib.hid (show idxN p (l.drop l.length) l.length = -1 by rw [List.drop_length]; rfl)
  have H0 := Lib.hid (show idxN p l 0 = idxN p (l.drop 0) 0 from rfl)
  have HF := Lib.hid (fun k (hk : k < l.length) => HF (l[k]'hk) (List.getElem_mem hk))
  generalize idxN p l 0 = O at *
  clear hI
  go_enter Tryd.func82, Tryd.ntmps82
  go_wp2_with fail
  go_loopw [8] (fun i wr => ∃ k : Nat, k ≤ l.length ∧ i = .int .i64 k ∧ Hid (O = idxN p (l.drop k) k) ∧ Hid (Below w.heap.size w wr)) (fun i _ => l.length - (RowKit.intOf i).toNat)
  case atStart => exact ⟨0, Nat.zero_le _, rfl, H0, Lib.hid (Below.refl _ _)⟩
  case round =>
    obtain ⟨k, hk, rfl, HK, HB⟩ := hrel
    by_cases hlt : k < l.length
    · have hki : (k : Int) < (l.length : Int) := by omega
      obtain ⟨b, o, rfl, _, e2⟩ := HC.out k hlt
      have hik := fun W => at_c4 b o l.length c k hlt W
      obtain ⟨c0, c1, c2, c3⟩ := e2 wr HB.out
      have hst := HST.out k hlt
      have CB := Lib.hid (HF.out k hlt)
      have HLT := Lib.hid hlt
      generalize l[k]'hlt = x at *
      cases hb : p x with
      | true =>
        have HO := Lib.hid (show O = (k : Int) by rw [HK.out, hst, hb]; rfl)
        rw [hb] at CB
        clear hst hb e2 hlt
        go_wp2_with fail
        refine (CB.out _ HB.out).mono ?_
        rintro e z ⟨rfl, hz⟩
        have HZ := Lib.hid (below_up8 HB.out hz)
        clear hz c0 c1 c2 c3
        go_wp2_with fail
        go_ret
        exact ⟨by rw [HO.out]; rfl, HZ.out⟩
      | false =>
        have HO := Lib.hid (show O = idxN p (l.drop (k + 1)) (k + 1) by rw [HK.out, hst, hb]; rfl)
        rw [hb] at CB
        clear hst hb e2 hlt
        go_wp2_with fail
        refine (CB.out _ HB.out).mono ?_
        rintro e z ⟨rfl, hz⟩
        have HZ := Lib.hid (below_up8 HB.out hz)
        clear hz c0 c1 c2 c3
        go_wp2_with fail
        go_roundw
        case rel => exact ⟨k + 1, HLT.out, by go_num, HO, HZ⟩
        case measure => have := HLT.out; simp [RowKit.intOf]; omega
    · have hke : k = l.length := by omega
      have HO := Lib.hid (show O = -1 by rw [HK.out, hke, HN.out])
      have hki : ¬ (k : Int) < (l.length : Int) := by omega
      clear hke hlt
      go_wp2_with fail
      go_ret
      exact ⟨by rw [HO.out]; rfl, HB.out⟩
set_option maxRecDepth 100000 in
set_option maxHeartbeats 4000000 in
theorem agree_u (L : List C4) (ad : Option Addr) (c : Nat) (x : List Int) (adx : Option Addr) (cx : Nat) (m : Int) (w : World) (hl : L.length ≤ maxLen) (hL : RL KC w ad L) (hX : RL KI w adx x) (hc : ∀ y ∈ L, y.okx x.length) (hx : timB x) :
    Calls Tryd.prog 51 #[.slice ad L.length c, .slice adx x.length cx, .int .i64 m] w fun e w' => e = .returned (.bool (!(L.any (brkB m x)))) ∧ Below w.heap.size w w' := by
  obtain ⟨w1, V1, Z1, K1, B1⟩ := lay8 w [.slice adx x.length cx] 22
  obtain ⟨w2, V2, Z2, K2, B2⟩ := lay8 w1 [.int .i64 m] 3
  rw [Z1] at Z2 K2 B2
  have KA := Lib.hid (K1.up B2 (by omega)); have KB := Lib.hid K2
  have HB := Lib.hid (show Below w.heap.size w w2 from B1.trans (B2.mono (by omega)))
  have HC := Lib.hid (indexCon_u (brkB m x) 76 #[.pointer (some ⟨w.heap.size + 1, 0, none⟩), .pointer (some ⟨w.heap.size, 0, none⟩)] ad c L hl w2 (hL.below HB.out) (by intro args W; rfl)
    (fun y hy W b => agree1_u y m x adx cx (w.heap.size + 1) w.heap.size W (hc y hy) hx ((b.cell (p := ⟨w.heap.size + 1, 0, none⟩) (by show w.heap.size + 1 < _; omega)).trans (KB.out 0 (by simp)).1) ((b.cell (p := ⟨w.heap.size, 0, none⟩) (by show w.heap.size < _; omega)).trans (KA.out 0 (by simp)).1) (hX.below (HB.out.trans (b.mono HB.out.size)))))
  have HAN := Lib.hid (idxN_any (brkB m x) L 0)
  generalize idxN (brkB m x) L 0 = O at *
  generalize L.any (brkB m x) = R at *
  have hz := HB.out.size
  clear hL hl hc hx K1 K2 B1 B2 hX
  go_enter Tryd.func51, Tryd.ntmps51
  go_wp2_with fail
  refine Calls.mono (R := fun e w' => e = .returned (.bool R) ∧ Below w2.heap.size w2 w') ?_ ?_
  · clear V1 V2
    go_enter Tryd.func75, Tryd.ntmps75
    go_wp2_with fail
    refine (HC.out).mono ?_
    rintro e z ⟨rfl, hz⟩
    have HZ := Lib.hid hz
    clear hz
    go_wp2_with fail
    go_ret
    exact ⟨by rw [← HAN.out]; rfl, HZ.out⟩
  · rintro e z ⟨rfl, hz2⟩
    have HZ := Lib.hid (HB.out.trans (hz2.mono hz))
    clear hz2
    go_wp2_with fail
    go_ret
    exact ⟨by cases R <;> rfl, HZ.out⟩
set_option maxRecDepth 100000 in
set_option maxHeartbeats 4000000 in
theorem areTimes_u (ad : Option Addr) (n c : Nat) (x : List Int) (adx : Option Addr) (cx : Nat) (w : World) (hl : x.length ≤ maxLen) (hX : RL KI w adx x) :
    Calls Tryd.prog 50 #[.slice ad n c, .slice adx x.length cx] w fun e w' => e = .returned (.bool (timesB n x)) ∧ Below w.heap.size w w' := by
  have HC := Lib.hid (areIn_u adx cx x (-17592186044416) 17592186044416 hl w hX)
  have HE := Lib.hid (show timesB n x = (decide (x.length = n) && !(x.any fun v => !inB v (-17592186044416) 17592186044416)) by
    unfold timesB
    rw [Bool.and_comm, List.not_any_eq_all_not]
    congr 2
    funext v
    simp)
  generalize (x.any fun v => !inB v (-17592186044416) 17592186044416) = b1 at *
  generalize timesB n x = R at *
  clear hX hl
  by_cases hn : x.length = n
  · have HN := Lib.hid hn
    have e1 : ((x.length : Int) == (n : Int)) = true := by rw [beq_iff_eq]; omega
    have e2 : (x.length == n) = true := by rw [beq_iff_eq]; omega
    have e3 : (x.length : Int) = (n : Int) := by omega
    have HF := Lib.hid (show R = !b1 by rw [HE.out, decide_eq_true HN.out]; simp)
    clear hn HE
    go_enter Tryd.func50, Tryd.ntmps50
    go_wp2_with (first | (go_at_call 41; refine (HC.out).mono ?_; rintro e z ⟨rfl, hz⟩))
    go_ret
    exact ⟨by rw [HF.out]; rfl, hz⟩
  · have HN := Lib.hid hn
    have e1 : ((x.length : Int) == (n : Int)) = false := by rw [beq_eq_false_iff_ne]; omega
    have e2 : (x.length == n) = false := by rw [beq_eq_false_iff_ne]; omega
    have e3 : ¬ (x.length : Int) = (n : Int) := by omega
    have HF := Lib.hid (show R = false by rw [HE.out, decide_eq_false HN.out]; rfl)
    clear hn HE
    go_enter Tryd.func50, Tryd.ntmps50
    go_wp2_with fail
    go_ret
    exact ⟨by rw [HF.out]; rfl, Below.refl _ _⟩
end Go.Proofs.YtifdcfjllonmgaaDoor
