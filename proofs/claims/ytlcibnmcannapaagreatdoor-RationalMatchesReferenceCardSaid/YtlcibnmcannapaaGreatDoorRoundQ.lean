/-
  The contracts of the program's Down and Up.
-/
import Derived.Test.YtlcibnmcannapaaGreatDoorAddQ
import Derived.Test.YtlcibnmcannapaaGreatDoorRefQ
import Derived.Test.YtlcibnmcannapaaGreatDoorStrs
namespace Go.Proofs.YtlcibnmcannapaaGreatDoor
open Go Go.Proofs Go.RowKit Go.Lib

theorem repeat_zeros : ∀ k : Nat, Lib.repeatL [48] k = List.replicate k 48
  | 0 => rfl
  | k + 1 => by rw [Lib.repeatL, repeat_zeros k, List.replicate_succ]; rfl
theorem one_zeros (k : Nat) : (⟨#[49]⟩ : ByteArray) ++ ⟨(Lib.repeatL (⟨#[48]⟩ : ByteArray).data.toList k).toArray⟩ = powT k := by
  rw [powT_list]
  apply ByteArray.ext
  rw [ByteArray.data_append]
  show #[49] ++ (Lib.repeatL [48] k).toArray = _
  rw [repeat_zeros]
  unfold byteL
  simp
theorem repeat_size (k : Nat) : (⟨(Lib.repeatL (⟨#[48]⟩ : ByteArray).data.toList k).toArray⟩ : ByteArray).size = k := by
  show (Lib.repeatL [48] k).toArray.size = k
  rw [repeat_zeros]
  simp
theorem keep2 {W0 : World} {A B : Nat} {n d x y : ByteArray} (h : ∀ W, Below W0.heap.size W0 W → RatAt W A n d ∧ RatAt W B x y) {W : World} (b : Below W0.heap.size W0 W) :
    W.cell? ⟨A, 0, none⟩ = some (.string n) ∧ W.cell? ⟨A, 1, none⟩ = some (.string d) := ⟨(h W b).1.1, (h W b).1.2.1⟩
theorem steps_three {W : World} {v u x : Value} {f g h : StepF} (h1 : StepIs W v f) (h2 : StepIs W u g) (h3 : StepIs W x h) : StepsIs W [v, u, x] [f, g, h] := ⟨h1, h2, h3, trivial⟩

set_option maxRecDepth 100000 in
set_option maxHeartbeats 8000000 in
theorem round_down (n d : ByteArray) (hn : n.size ≤ 1099511627776) (hd : d.size ≤ 1099511627776) (p : Int) (hp1 : -9223372036854775808 ≤ p) (hp2 : p ≤ 9223372036854775807) (w : World) (hR : Ready w) :
    Calls Tryz.prog 55 #[.agg #[.string n, .string d], .int .i64 p, .func (.func 56) #[] #[]] w fun e w' => e = .returned (.tuple #[.agg #[.string (outN (gridB n d p) (downV n d p)), .string (outD (gridB n d p) (downV n d p))], .int .i64 (outE (gridB n d p))]) ∧ Below w.heap.size w w' := by
  obtain ⟨W0, hW0, b0, hcc⟩ := box_two w n d ⟨#[]⟩ ⟨#[]⟩
  have HW := Lib.hid hW0; have HC := Lib.hid hcc; have B0 := Lib.hid b0
  have HR := Lib.hid (hR.below b0)
  have P0 := Lib.hid (Below.refl W0.heap.size W0)
  clear hW0 hcc b0
  clear hR
  have va := fun W (h : Ready W) => valid_q n d hn hd W h
  cases hv : validQ n d with
  | false =>
    rw [hv] at va
    rw [gridB_bad (p := p) (.inl hv)]
    show Calls _ _ _ _ fun e w' => e = .returned (.tuple #[.agg #[.string ⟨#[]⟩, .string ⟨#[]⟩], .int .i64 40]) ∧ _
    have VA := Lib.hid va
    clear va hv
    go_enter Tryz.func55, Tryz.ntmps55
    obtain ⟨⟨ca0, cb0, cc0, cd0⟩, ⟨ce0, cf0, cg0, ch0⟩⟩ := HC.out _ (Below.refl _ _)
    go_wp2_with (rw [HW.out])
    refine (VA.out _ (HR.out.below P0.out)).mono ?_
    rintro e w1 ⟨rfl, b1⟩
    have P1 := Lib.hid (below_up P0.out b1)
    obtain ⟨⟨ca1, cb1, cc1, cd1⟩, ⟨ce1, cf1, cg1, ch1⟩⟩ := HC.out _ P1.out
    clear b1 P0 ca0 cb0 cc0 cd0 ce0 cf0 cg0 ch0 
    go_wp2_with fail
    exact bodyPost_ret (v := .tuple #[.agg #[.string ⟨#[]⟩, .string ⟨#[]⟩], .int .i64 40]) (by simp [results, Tryz.results55, go_sem, ce1, cf1]) rfl ⟨rfl, rat_done B0.out (by omega) P1.out _ _⟩
  | true =>
    rw [hv] at va
    by_cases h0 : p < 0
    · rw [gridB_bad (n := n) (d := d) (.inr (.inl h0))]
      show Calls _ _ _ _ fun e w' => e = .returned (.tuple #[.agg #[.string ⟨#[]⟩, .string ⟨#[]⟩], .int .i64 40]) ∧ _
      have VA := Lib.hid va
      clear va hv
      go_enter Tryz.func55, Tryz.ntmps55
      obtain ⟨⟨ca0, cb0, cc0, cd0⟩, ⟨ce0, cf0, cg0, ch0⟩⟩ := HC.out _ (Below.refl _ _)
      go_wp2_with (rw [HW.out])
      refine (VA.out _ (HR.out.below P0.out)).mono ?_
      rintro e w1 ⟨rfl, b1⟩
      have P1 := Lib.hid (below_up P0.out b1)
      obtain ⟨⟨ca1, cb1, cc1, cd1⟩, ⟨ce1, cf1, cg1, ch1⟩⟩ := HC.out _ P1.out
      clear b1 P0 ca0 cb0 cc0 cd0 ce0 cf0 cg0 ch0 
      go_wp2_with fail
      exact bodyPost_ret (v := .tuple #[.agg #[.string ⟨#[]⟩, .string ⟨#[]⟩], .int .i64 40]) (by simp [results, Tryz.results55, go_sem, ce1, cf1]) rfl ⟨rfl, rat_done B0.out (by omega) P1.out _ _⟩
    · by_cases h1 : 30 < p
      · rw [gridB_bad (n := n) (d := d) (.inr (.inr h1))]
        show Calls _ _ _ _ fun e w' => e = .returned (.tuple #[.agg #[.string ⟨#[]⟩, .string ⟨#[]⟩], .int .i64 40]) ∧ _
        have VA := Lib.hid va
        clear va hv
        go_enter Tryz.func55, Tryz.ntmps55
        obtain ⟨⟨ca0, cb0, cc0, cd0⟩, ⟨ce0, cf0, cg0, ch0⟩⟩ := HC.out _ (Below.refl _ _)
        go_wp2_with (rw [HW.out])
        refine (VA.out _ (HR.out.below P0.out)).mono ?_
        rintro e w1 ⟨rfl, b1⟩
        have P1 := Lib.hid (below_up P0.out b1)
        obtain ⟨⟨ca1, cb1, cc1, cd1⟩, ⟨ce1, cf1, cg1, ch1⟩⟩ := HC.out _ P1.out
        clear b1 P0 ca0 cb0 cc0 cd0 ce0 cf0 cg0 ch0 
        go_wp2_with fail
        exact bodyPost_ret (v := .tuple #[.agg #[.string ⟨#[]⟩, .string ⟨#[]⟩], .int .i64 40]) (by simp [results, Tryz.results55, go_sem, ce1, cf1]) rfl ⟨rfl, rat_done B0.out (by omega) P1.out _ _⟩
      · obtain ⟨k, rfl⟩ : ∃ k : Nat, p = (k : Int) := ⟨p.toNat, by omega⟩
        have hk : k ≤ 30 := by omega
        have hb := gridB_good (p := (k : Int)) hv (by omega) (by omega)
        rw [Int.toNat_natCast] at hb
        have hO := chain_down (p := k) hv hk
        rw [← hb, show (10 : Int) ^ k = 10 ^ ((k : Int)).toNat by rw [Int.toNat_natCast]] at hO
        have hs := powT_size k
        have hs2 : (powT k).size ≤ 1099511627776 := by omega
        have cr := fun W => strings_Repeat ⟨#[48]⟩ k W (by omega) (by show 1 * k ≤ _; omega)
        have hsz := repeat_size k
        have hone := one_zeros k
        generalize (⟨(Lib.repeatL (⟨#[48]⟩ : ByteArray).data.toList k).toArray⟩ : ByteArray) = Z at *
        have ct := fun W (h : Ready W) => (show Calls Tryz.prog 67 #[.string (powT k), .string ⟨#[49]⟩] W (StepRet (timesF (powT k) oneT) W) from timesQ_any (powT k) oneT hs2 one_size W h)
        have cu := fun W (h : Ready W) => (show Calls Tryz.prog 67 #[.string ⟨#[49]⟩, .string (powT k)] W (StepRet (timesF oneT (powT k)) W) from timesQ_any oneT (powT k) one_size hs2 W h)
        have cb := fun W (h : Ready W) (v : Value) (vals : List Value) (hl : vals.length ≤ 1000) (h1 : StepsAt W v vals) (h2 : StepsIs W vals [timesF (powT k) oneT, floorF, timesF oneT (powT k)]) => buildQ_any n d hn hd v vals [timesF (powT k) oneT, floorF, timesF oneT (powT k)] hl _ hO W h h1 h2
        obtain ⟨p1, p2, p3⟩ := pair_out (gridB n d (k : Int)) (downV n d (k : Int))
        have cb2 := fun W (h : Ready W) (v : Value) (vals : List Value) (hl : vals.length ≤ 1000) (h1 : StepsAt W v vals) (h2 : StepsIs W vals [timesF (powT k) oneT, floorF, timesF oneT (powT k)]) => (show Calls Tryz.prog 59 #[.string n, .string d, v] W fun e w' => e = .returned (.tuple #[.agg #[.string (pairN (if gridB n d (k : Int) then some (nT (downV n d (k : Int)), dT (downV n d (k : Int))) else none)), .string (pairD (if gridB n d (k : Int) then some (nT (downV n d (k : Int)), dT (downV n d (k : Int))) else none))], .int .i64 (pairE (if gridB n d (k : Int) then some (nT (downV n d (k : Int)), dT (downV n d (k : Int))) else none))]) ∧ Below W.heap.size W w' from cb W h v vals hl h1 h2)
        rw [p1, p2, p3] at cb2
        clear p1 p2 p3 cb hO hb
        generalize outN (gridB n d (k : Int)) (downV n d (k : Int)) = XN at *
        generalize outD (gridB n d (k : Int)) (downV n d (k : Int)) = XD at *
        generalize outE (gridB n d (k : Int)) = XE at *
        have hfl := fun W (h : Ready W) => floor_is W h
        generalize powT k = T at *
        have VA := Lib.hid va; have CR := Lib.hid cr; have CT := Lib.hid ct; have CU := Lib.hid cu; have CB := Lib.hid cb2; have FL := Lib.hid hfl; have ONE := Lib.hid hone
        clear va cr ct cu cb2 hfl hone hv hs hs2 h0 h1 hn hd
        have hZ : Z.size ≤ 30 := by omega
        clear hsz
        go_enter Tryz.func55, Tryz.ntmps55
        obtain ⟨⟨ca0, cb0, cc0, cd0⟩, ⟨ce0, cf0, cg0, ch0⟩⟩ := HC.out _ (Below.refl _ _)
        go_wp2_with (rw [HW.out])
        refine (VA.out _ (HR.out.below P0.out)).mono ?_
        rintro e w1 ⟨rfl, b1⟩
        have P1 := Lib.hid (below_up P0.out b1)
        obtain ⟨⟨ca1, cb1, cc1, cd1⟩, ⟨ce1, cf1, cg1, ch1⟩⟩ := HC.out _ P1.out
        clear b1 P0 ca0 cb0 cc0 cd0 ce0 cf0 cg0 ch0 
        go_wp2_with fail
        refine (CR.out _).mono ?_
        rintro e w2 ⟨rfl, b2⟩
        have P2 := Lib.hid (below_up P1.out b2)
        obtain ⟨⟨ca2, cb2, cc2, cd2⟩, ⟨ce2, cf2, cg2, ch2⟩⟩ := HC.out _ P2.out
        clear b2 ca1 cb1 cc1 cd1 ce1 cf1 cg1 ch1
        go_wp2_with fail
        rw [ONE.out]
        go_region_held3 (fun W => W.cell? ⟨w.heap.size, 0, none⟩ = some (.string n) ∧ W.cell? ⟨w.heap.size, 1, none⟩ = some (.string d))
          (first | exact keep2 HC.out P2.out | exact keep2 HC.out ⟨P2.out.os, P2.out.tape, P2.out.output, P2.out.size, P2.out.block⟩ | exact keep2 HC.out hb1 | exact keep2 HC.out hb12 | exact keep2 HC.out (hb12.alloc hb12.size _) | exact keep2 HC.out hb3 | ((have hq := keep2 HC.out hb3); simp [go_sem, hq.1, hq.2]))
          (first | (go_at_call 67; (with_reducible refine (CT.out _ ?_).mono ?_); exact HR.out.below ⟨P2.out.os, P2.out.tape, P2.out.output, P2.out.size, P2.out.block⟩; (rintro e w5 ⟨v1, rfl, hi1, hb1'⟩); (obtain ⟨g1, k1, rfl⟩ := hi1.form); have hb1 : Below W0.heap.size W0 w5 := below_up P2.out ⟨hb1'.os, hb1'.tape, hb1'.output, hb1'.size, hb1'.block⟩) | (go_at_call 67; (with_reducible refine (CU.out _ ?_).mono ?_); exact HR.out.below hb1; (rintro e w6 ⟨v2, rfl, hi2, hb2'⟩); (obtain ⟨g2, k2, rfl⟩ := hi2.form); have hb2 : Below w5.heap.size w5 w6 := ⟨hb2'.os, hb2'.tape, hb2'.output, hb2'.size, hb2'.block⟩; have hi1' := hi1.below hb2; have hb12 := below_up hb1 hb2) | (go_at_call 59; (refine (CB.out _ (HR.out.below (hb12.alloc hb12.size _)) _ [_, _, _] (by simp) (lit_at w6 [_, _, _] _ rfl) (steps_three (hi1'.below ((Below.refl _ _).alloc (Nat.le_refl _) _)) (FL.out _ (HR.out.below (hb12.alloc hb12.size _))) (hi2.below ((Below.refl _ _).alloc (Nat.le_refl _) _)))).mono ?_); (rintro e w7 ⟨rfl, hb3'⟩); (have hb3 : Below W0.heap.size W0 w7 := below_up (hb12.alloc hb12.size _) hb3'); (obtain ⟨_, ⟨ci7, cj7, ck7, cl7⟩⟩ := HC.out _ hb3)))
        all_goals (
          have P7 := Lib.hid hb3
          go_wp2
          exact bodyPost_ret (v := .tuple #[.agg #[.string XN, .string XD], .int .i64 XE]) (by simp [results, Tryz.results55, go_sem, ci7, cj7]) rfl ⟨rfl, rat_done B0.out (by omega) P7.out _ _⟩)
set_option maxRecDepth 100000 in
set_option maxHeartbeats 8000000 in
theorem down_q (n d : ByteArray) (hn : n.size ≤ 1099511627776) (hd : d.size ≤ 1099511627776) (p : Int) (hp1 : -9223372036854775808 ≤ p) (hp2 : p ≤ 9223372036854775807) (w : World) (hR : Ready w) :
    Calls Tryz.prog 23 #[.agg #[.string n, .string d], .int .i64 p] w fun e w' => e = .returned (.tuple #[.agg #[.string (outN (gridB n d p) (downV n d p)), .string (outD (gridB n d p) (downV n d p))], .int .i64 (outE (gridB n d p))]) ∧ Below w.heap.size w w' := by
  obtain ⟨W0, hW0, b0, hcc⟩ := box_two w n d ⟨#[]⟩ ⟨#[]⟩
  have HW := Lib.hid hW0; have HC := Lib.hid hcc; have B0 := Lib.hid b0
  have HR := Lib.hid (hR.below b0)
  have P0 := Lib.hid (Below.refl W0.heap.size W0)
  clear hW0 hcc b0
  clear hR
  have cr := fun W (h : Ready W) => round_down n d hn hd p hp1 hp2 W h
  generalize outN (gridB n d p) (downV n d p) = XN at *
  generalize outD (gridB n d p) (downV n d p) = XD at *
  generalize outE (gridB n d p) = XE at *
  have CR := Lib.hid cr
  clear cr hn hd
  go_enter Tryz.func23, Tryz.ntmps23
  obtain ⟨⟨ca0, cb0, cc0, cd0⟩, ⟨ce0, cf0, cg0, ch0⟩⟩ := HC.out _ (Below.refl _ _)
  go_wp2_with (rw [HW.out])
  refine (CR.out _ (HR.out.below P0.out)).mono ?_
  rintro e w1 ⟨rfl, b1⟩
  have P1 := Lib.hid (below_up P0.out b1)
  obtain ⟨⟨ca1, cb1, cc1, cd1⟩, ⟨ce1, cf1, cg1, ch1⟩⟩ := HC.out _ P1.out
  clear b1 P0 ca0 cb0 cc0 cd0 ce0 cf0 cg0 ch0 
  go_wp2_with fail
  exact bodyPost_ret (v := .tuple #[.agg #[.string XN, .string XD], .int .i64 XE]) (by simp [results, Tryz.results23, go_sem, ce1, cf1]) rfl ⟨rfl, rat_done B0.out (by omega) P1.out _ _⟩
set_option maxRecDepth 100000 in
set_option maxHeartbeats 8000000 in
theorem round_up (n d : ByteArray) (hn : n.size ≤ 1099511627776) (hd : d.size ≤ 1099511627776) (p : Int) (hp1 : -9223372036854775808 ≤ p) (hp2 : p ≤ 9223372036854775807) (w : World) (hR : Ready w) :
    Calls Tryz.prog 55 #[.agg #[.string n, .string d], .int .i64 p, .func (.func 58) #[] #[]] w fun e w' => e = .returned (.tuple #[.agg #[.string (outN (gridB n d p) (upV n d p)), .string (outD (gridB n d p) (upV n d p))], .int .i64 (outE (gridB n d p))]) ∧ Below w.heap.size w w' := by
  obtain ⟨W0, hW0, b0, hcc⟩ := box_two w n d ⟨#[]⟩ ⟨#[]⟩
  have HW := Lib.hid hW0; have HC := Lib.hid hcc; have B0 := Lib.hid b0
  have HR := Lib.hid (hR.below b0)
  have P0 := Lib.hid (Below.refl W0.heap.size W0)
  clear hW0 hcc b0
  clear hR
  have va := fun W (h : Ready W) => valid_q n d hn hd W h
  cases hv : validQ n d with
  | false =>
    rw [hv] at va
    rw [gridB_bad (p := p) (.inl hv)]
    show Calls _ _ _ _ fun e w' => e = .returned (.tuple #[.agg #[.string ⟨#[]⟩, .string ⟨#[]⟩], .int .i64 40]) ∧ _
    have VA := Lib.hid va
    clear va hv
    go_enter Tryz.func55, Tryz.ntmps55
    obtain ⟨⟨ca0, cb0, cc0, cd0⟩, ⟨ce0, cf0, cg0, ch0⟩⟩ := HC.out _ (Below.refl _ _)
    go_wp2_with (rw [HW.out])
    refine (VA.out _ (HR.out.below P0.out)).mono ?_
    rintro e w1 ⟨rfl, b1⟩
    have P1 := Lib.hid (below_up P0.out b1)
    obtain ⟨⟨ca1, cb1, cc1, cd1⟩, ⟨ce1, cf1, cg1, ch1⟩⟩ := HC.out _ P1.out
    clear b1 P0 ca0 cb0 cc0 cd0 ce0 cf0 cg0 ch0 
    go_wp2_with fail
    exact bodyPost_ret (v := .tuple #[.agg #[.string ⟨#[]⟩, .string ⟨#[]⟩], .int .i64 40]) (by simp [results, Tryz.results55, go_sem, ce1, cf1]) rfl ⟨rfl, rat_done B0.out (by omega) P1.out _ _⟩
  | true =>
    rw [hv] at va
    by_cases h0 : p < 0
    · rw [gridB_bad (n := n) (d := d) (.inr (.inl h0))]
      show Calls _ _ _ _ fun e w' => e = .returned (.tuple #[.agg #[.string ⟨#[]⟩, .string ⟨#[]⟩], .int .i64 40]) ∧ _
      have VA := Lib.hid va
      clear va hv
      go_enter Tryz.func55, Tryz.ntmps55
      obtain ⟨⟨ca0, cb0, cc0, cd0⟩, ⟨ce0, cf0, cg0, ch0⟩⟩ := HC.out _ (Below.refl _ _)
      go_wp2_with (rw [HW.out])
      refine (VA.out _ (HR.out.below P0.out)).mono ?_
      rintro e w1 ⟨rfl, b1⟩
      have P1 := Lib.hid (below_up P0.out b1)
      obtain ⟨⟨ca1, cb1, cc1, cd1⟩, ⟨ce1, cf1, cg1, ch1⟩⟩ := HC.out _ P1.out
      clear b1 P0 ca0 cb0 cc0 cd0 ce0 cf0 cg0 ch0 
      go_wp2_with fail
      exact bodyPost_ret (v := .tuple #[.agg #[.string ⟨#[]⟩, .string ⟨#[]⟩], .int .i64 40]) (by simp [results, Tryz.results55, go_sem, ce1, cf1]) rfl ⟨rfl, rat_done B0.out (by omega) P1.out _ _⟩
    · by_cases h1 : 30 < p
      · rw [gridB_bad (n := n) (d := d) (.inr (.inr h1))]
        show Calls _ _ _ _ fun e w' => e = .returned (.tuple #[.agg #[.string ⟨#[]⟩, .string ⟨#[]⟩], .int .i64 40]) ∧ _
        have VA := Lib.hid va
        clear va hv
        go_enter Tryz.func55, Tryz.ntmps55
        obtain ⟨⟨ca0, cb0, cc0, cd0⟩, ⟨ce0, cf0, cg0, ch0⟩⟩ := HC.out _ (Below.refl _ _)
        go_wp2_with (rw [HW.out])
        refine (VA.out _ (HR.out.below P0.out)).mono ?_
        rintro e w1 ⟨rfl, b1⟩
        have P1 := Lib.hid (below_up P0.out b1)
        obtain ⟨⟨ca1, cb1, cc1, cd1⟩, ⟨ce1, cf1, cg1, ch1⟩⟩ := HC.out _ P1.out
        clear b1 P0 ca0 cb0 cc0 cd0 ce0 cf0 cg0 ch0 
        go_wp2_with fail
        exact bodyPost_ret (v := .tuple #[.agg #[.string ⟨#[]⟩, .string ⟨#[]⟩], .int .i64 40]) (by simp [results, Tryz.results55, go_sem, ce1, cf1]) rfl ⟨rfl, rat_done B0.out (by omega) P1.out _ _⟩
      · obtain ⟨k, rfl⟩ : ∃ k : Nat, p = (k : Int) := ⟨p.toNat, by omega⟩
        have hk : k ≤ 30 := by omega
        have hb := gridB_good (p := (k : Int)) hv (by omega) (by omega)
        rw [Int.toNat_natCast] at hb
        have hO := chain_up (p := k) hv hk
        rw [← hb, show (10 : Int) ^ k = 10 ^ ((k : Int)).toNat by rw [Int.toNat_natCast]] at hO
        have hs := powT_size k
        have hs2 : (powT k).size ≤ 1099511627776 := by omega
        have cr := fun W => strings_Repeat ⟨#[48]⟩ k W (by omega) (by show 1 * k ≤ _; omega)
        have hsz := repeat_size k
        have hone := one_zeros k
        generalize (⟨(Lib.repeatL (⟨#[48]⟩ : ByteArray).data.toList k).toArray⟩ : ByteArray) = Z at *
        have ct := fun W (h : Ready W) => (show Calls Tryz.prog 67 #[.string (powT k), .string ⟨#[49]⟩] W (StepRet (timesF (powT k) oneT) W) from timesQ_any (powT k) oneT hs2 one_size W h)
        have cu := fun W (h : Ready W) => (show Calls Tryz.prog 67 #[.string ⟨#[49]⟩, .string (powT k)] W (StepRet (timesF oneT (powT k)) W) from timesQ_any oneT (powT k) one_size hs2 W h)
        have cb := fun W (h : Ready W) (v : Value) (vals : List Value) (hl : vals.length ≤ 1000) (h1 : StepsAt W v vals) (h2 : StepsIs W vals [timesF (powT k) oneT, ceilF, timesF oneT (powT k)]) => buildQ_any n d hn hd v vals [timesF (powT k) oneT, ceilF, timesF oneT (powT k)] hl _ hO W h h1 h2
        obtain ⟨p1, p2, p3⟩ := pair_out (gridB n d (k : Int)) (upV n d (k : Int))
        have cb2 := fun W (h : Ready W) (v : Value) (vals : List Value) (hl : vals.length ≤ 1000) (h1 : StepsAt W v vals) (h2 : StepsIs W vals [timesF (powT k) oneT, ceilF, timesF oneT (powT k)]) => (show Calls Tryz.prog 59 #[.string n, .string d, v] W fun e w' => e = .returned (.tuple #[.agg #[.string (pairN (if gridB n d (k : Int) then some (nT (upV n d (k : Int)), dT (upV n d (k : Int))) else none)), .string (pairD (if gridB n d (k : Int) then some (nT (upV n d (k : Int)), dT (upV n d (k : Int))) else none))], .int .i64 (pairE (if gridB n d (k : Int) then some (nT (upV n d (k : Int)), dT (upV n d (k : Int))) else none))]) ∧ Below W.heap.size W w' from cb W h v vals hl h1 h2)
        rw [p1, p2, p3] at cb2
        clear p1 p2 p3 cb hO hb
        generalize outN (gridB n d (k : Int)) (upV n d (k : Int)) = XN at *
        generalize outD (gridB n d (k : Int)) (upV n d (k : Int)) = XD at *
        generalize outE (gridB n d (k : Int)) = XE at *
        have hfl := fun W (h : Ready W) => ceiling_is W h
        generalize powT k = T at *
        have VA := Lib.hid va; have CR := Lib.hid cr; have CT := Lib.hid ct; have CU := Lib.hid cu; have CB := Lib.hid cb2; have FL := Lib.hid hfl; have ONE := Lib.hid hone
        clear va cr ct cu cb2 hfl hone hv hs hs2 h0 h1 hn hd
        have hZ : Z.size ≤ 30 := by omega
        clear hsz
        go_enter Tryz.func55, Tryz.ntmps55
        obtain ⟨⟨ca0, cb0, cc0, cd0⟩, ⟨ce0, cf0, cg0, ch0⟩⟩ := HC.out _ (Below.refl _ _)
        go_wp2_with (rw [HW.out])
        refine (VA.out _ (HR.out.below P0.out)).mono ?_
        rintro e w1 ⟨rfl, b1⟩
        have P1 := Lib.hid (below_up P0.out b1)
        obtain ⟨⟨ca1, cb1, cc1, cd1⟩, ⟨ce1, cf1, cg1, ch1⟩⟩ := HC.out _ P1.out
        clear b1 P0 ca0 cb0 cc0 cd0 ce0 cf0 cg0 ch0 
        go_wp2_with fail
        refine (CR.out _).mono ?_
        rintro e w2 ⟨rfl, b2⟩
        have P2 := Lib.hid (below_up P1.out b2)
        obtain ⟨⟨ca2, cb2, cc2, cd2⟩, ⟨ce2, cf2, cg2, ch2⟩⟩ := HC.out _ P2.out
        clear b2 ca1 cb1 cc1 cd1 ce1 cf1 cg1 ch1
        go_wp2_with fail
        rw [ONE.out]
        go_region_held3 (fun W => W.cell? ⟨w.heap.size, 0, none⟩ = some (.string n) ∧ W.cell? ⟨w.heap.size, 1, none⟩ = some (.string d))
          (first | exact keep2 HC.out P2.out | exact keep2 HC.out ⟨P2.out.os, P2.out.tape, P2.out.output, P2.out.size, P2.out.block⟩ | exact keep2 HC.out hb1 | exact keep2 HC.out hb12 | exact keep2 HC.out (hb12.alloc hb12.size _) | exact keep2 HC.out hb3 | ((have hq := keep2 HC.out hb3); simp [go_sem, hq.1, hq.2]))
          (first | (go_at_call 67; (with_reducible refine (CT.out _ ?_).mono ?_); exact HR.out.below ⟨P2.out.os, P2.out.tape, P2.out.output, P2.out.size, P2.out.block⟩; (rintro e w5 ⟨v1, rfl, hi1, hb1'⟩); (obtain ⟨g1, k1, rfl⟩ := hi1.form); have hb1 : Below W0.heap.size W0 w5 := below_up P2.out ⟨hb1'.os, hb1'.tape, hb1'.output, hb1'.size, hb1'.block⟩) | (go_at_call 67; (with_reducible refine (CU.out _ ?_).mono ?_); exact HR.out.below hb1; (rintro e w6 ⟨v2, rfl, hi2, hb2'⟩); (obtain ⟨g2, k2, rfl⟩ := hi2.form); have hb2 : Below w5.heap.size w5 w6 := ⟨hb2'.os, hb2'.tape, hb2'.output, hb2'.size, hb2'.block⟩; have hi1' := hi1.below hb2; have hb12 := below_up hb1 hb2) | (go_at_call 59; (refine (CB.out _ (HR.out.below (hb12.alloc hb12.size _)) _ [_, _, _] (by simp) (lit_at w6 [_, _, _] _ rfl) (steps_three (hi1'.below ((Below.refl _ _).alloc (Nat.le_refl _) _)) (FL.out _ (HR.out.below (hb12.alloc hb12.size _))) (hi2.below ((Below.refl _ _).alloc (Nat.le_refl _) _)))).mono ?_); (rintro e w7 ⟨rfl, hb3'⟩); (have hb3 : Below W0.heap.size W0 w7 := below_up (hb12.alloc hb12.size _) hb3'); (obtain ⟨_, ⟨ci7, cj7, ck7, cl7⟩⟩ := HC.out _ hb3)))
        all_goals (
          have P7 := Lib.hid hb3
          go_wp2
          exact bodyPost_ret (v := .tuple #[.agg #[.string XN, .string XD], .int .i64 XE]) (by simp [results, Tryz.results55, go_sem, ci7, cj7]) rfl ⟨rfl, rat_done B0.out (by omega) P7.out _ _⟩)
set_option maxRecDepth 100000 in
set_option maxHeartbeats 8000000 in
theorem up_q (n d : ByteArray) (hn : n.size ≤ 1099511627776) (hd : d.size ≤ 1099511627776) (p : Int) (hp1 : -9223372036854775808 ≤ p) (hp2 : p ≤ 9223372036854775807) (w : World) (hR : Ready w) :
    Calls Tryz.prog 25 #[.agg #[.string n, .string d], .int .i64 p] w fun e w' => e = .returned (.tuple #[.agg #[.string (outN (gridB n d p) (upV n d p)), .string (outD (gridB n d p) (upV n d p))], .int .i64 (outE (gridB n d p))]) ∧ Below w.heap.size w w' := by
  obtain ⟨W0, hW0, b0, hcc⟩ := box_two w n d ⟨#[]⟩ ⟨#[]⟩
  have HW := Lib.hid hW0; have HC := Lib.hid hcc; have B0 := Lib.hid b0
  have HR := Lib.hid (hR.below b0)
  have P0 := Lib.hid (Below.refl W0.heap.size W0)
  clear hW0 hcc b0
  clear hR
  have cr := fun W (h : Ready W) => round_up n d hn hd p hp1 hp2 W h
  generalize outN (gridB n d p) (upV n d p) = XN at *
  generalize outD (gridB n d p) (upV n d p) = XD at *
  generalize outE (gridB n d p) = XE at *
  have CR := Lib.hid cr
  clear cr hn hd
  go_enter Tryz.func25, Tryz.ntmps25
  obtain ⟨⟨ca0, cb0, cc0, cd0⟩, ⟨ce0, cf0, cg0, ch0⟩⟩ := HC.out _ (Below.refl _ _)
  go_wp2_with (rw [HW.out])
  refine (CR.out _ (HR.out.below P0.out)).mono ?_
  rintro e w1 ⟨rfl, b1⟩
  have P1 := Lib.hid (below_up P0.out b1)
  obtain ⟨⟨ca1, cb1, cc1, cd1⟩, ⟨ce1, cf1, cg1, ch1⟩⟩ := HC.out _ P1.out
  clear b1 P0 ca0 cb0 cc0 cd0 ce0 cf0 cg0 ch0 
  go_wp2_with fail
  exact bodyPost_ret (v := .tuple #[.agg #[.string XN, .string XD], .int .i64 XE]) (by simp [results, Tryz.results25, go_sem, ce1, cf1]) rfl ⟨rfl, rat_done B0.out (by omega) P1.out _ _⟩
end Go.Proofs.YtlcibnmcannapaaGreatDoor
