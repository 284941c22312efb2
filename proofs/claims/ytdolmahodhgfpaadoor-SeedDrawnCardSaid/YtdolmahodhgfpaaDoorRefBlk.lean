/-
  The contracts of the reference's constants and of its block: what the eight words become with a block.
-/
import Derived.Test.YtdolmahodhgfpaaDoorRefPad
import Derived.Test.YtdolmahodhgfpaaDoorProof
import Derived.Deep.RegionLaw
import Derived.Deep.RegionHeld3
namespace Go.Proofs.YtdolmahodhgfpaaDoor
open Go Go.Proofs Go.RowKit Go.Lib

theorem constants_any (w : World) :
    Calls Tryd.prog 56 #[] w fun e w' => ∃ g, e = .returned (.slice (some ⟨g, 0, none⟩) 64 64) ∧ NumsAt .u32 w' g 0 shaK ∧ g < w'.heap.size ∧ Below w.heap.size w w' := by
  go_enter Tryd.func56, Tryd.ntmps56
  go_wp2
  go_ret
  exact ⟨_, rfl, new_nums .u32 w shaK _, by simp, (Below.refl _ _).alloc (Nat.le_refl _) _⟩

theorem q_draw {P : Program} {f : FuncId} {args : Array Value} {w : World} {n : Nat} {v : Value} (c : ∀ W, Calls P f args W fun e w' => e = .returned v ∧ ∃ m, w' = W.drewN m) :
    Calls P f args (w.drewN n) fun e w'' => e = .returned v ∧ ∃ m, w'' = w.drewN m := (c _).mono fun _ _ ⟨he, m, hm⟩ => ⟨he, n + m, by rw [hm, World.drewN_drewN]⟩
theorem q_draw2 {P : Program} {f : FuncId} {args : Array Value} {w : World} {a n : Nat} {v : Value} (c : ∀ W, Calls P f args W fun e w' => e = .returned v ∧ ∃ m, w' = W.drewN m) :
    Calls P f args (w.drewN (a + n)) fun e w'' => e = .returned v ∧ ∃ m, w'' = w.drewN (a + m) := (c _).mono fun _ _ ⟨he, m, hm⟩ => ⟨he, n + m, by rw [hm, World.drewN_drewN, Nat.add_assoc]⟩
theorem rotated_lit (x n : Nat) (m : Int) (hm : m = (n : Nat)) (hx : x < 4294967296) (h1 : 1 ≤ n) (h2 : n ≤ 31) (w : World) :
    Calls Tryd.prog 55 #[.int .u32 (x : Nat), .int .i64 m] w fun e w' => e = .returned (.int .u32 ((rotr x n : Nat) : Int)) ∧ ∃ m, w' = w.drewN m := by
  subst hm; exact rotated_any x n hx h1 h2 w

theorem at8 (g o n c i : Nat) (z : Int) (hz : z = (i : Nat)) (hi : i < n) (w : World) :
    (Instr.indexAt 67 (.slice (some ⟨g, o, none⟩) n c) (.int .i64 z)).run Tryd.prog w = .ok (.pointer (some ⟨g, o + i, none⟩)) w := by
  subst hz
  have hs : ∀ w, (sizeOf (Tryd.prog.elem 67)).run Tryd.prog w = .ok 1 w := fun w => by kernel_rfl
  rw [run_indexAt_slice w 67 _ _ _ _ _ Tryd.underlying67, if_pos (by omega)]
  simp [hs, add_at, Result.andThen]
theorem at32 (g o n c i : Nat) (z : Int) (hz : z = (i : Nat)) (hi : i < n) (w : World) :
    (Instr.indexAt 71 (.slice (some ⟨g, o, none⟩) n c) (.int .i64 z)).run Tryd.prog w = .ok (.pointer (some ⟨g, o + i, none⟩)) w := by
  subst hz
  have hs : ∀ w, (sizeOf (Tryd.prog.elem 71)).run Tryd.prog w = .ok 1 w := fun w => by kernel_rfl
  rw [run_indexAt_slice w 71 _ _ _ _ _ Tryd.underlying71, if_pos (by omega)]
  simp [hs, add_at, Result.andThen]

/-- Four bytes as a word. -/
theorem shl_or (a b i : Nat) (h : b < 2 ^ i) : a * 2 ^ i ||| b = a * 2 ^ i + b := by
  rw [← Nat.shiftLeft_eq]; exact (Nat.shiftLeft_add_eq_or_of_lt h a).symm
theorem or4 (x0 x1 x2 x3 : Nat) (h0 : x0 < 256) (h1 : x1 < 256) (h2 : x2 < 256) (h3 : x3 < 256) :
    (((x0 * 16777216 % 4294967296) ||| (x1 * 65536 % 4294967296)) ||| (x2 * 256 % 4294967296)) ||| x3 = ((x0 * 256 + x1) * 256 + x2) * 256 + x3 := by
  rw [Nat.mod_eq_of_lt (by omega), Nat.mod_eq_of_lt (by omega), Nat.mod_eq_of_lt (by omega)]
  rw [show x0 * 16777216 = x0 * 2 ^ 24 by omega, shl_or x0 _ 24 (by omega), show x0 * 2 ^ 24 + x1 * 65536 = (x0 * 256 + x1) * 2 ^ 16 by omega, shl_or _ _ 16 (by omega),
    show (x0 * 256 + x1) * 2 ^ 16 + x2 * 256 = ((x0 * 256 + x1) * 256 + x2) * 2 ^ 8 by omega, shl_or _ _ 8 (by omega)]
theorem mid32 {W W' : World} {base : Nat} {v : Value} {p : List Nat} (h : Own32 W base v p) {o : Obj} (e : W' = (W.alloc o).drew) : Own32 W' base v p := by subst e; exact (h.alloc o).heq rfl
theorem mid8 {W W' : World} {base : Nat} {v : Value} {p : List Nat} (h : Own8 W base v p) {o : Obj} (e : W' = (W.alloc o).drew) : Own8 W' base v p := by subst e; exact (h.alloc o).heq rfl
theorem mid_below {n : Nat} {w W W' : World} (h : Below n w W) (hn : n ≤ W.heap.size) {o : Obj} (e : W' = (W.alloc o).drew) : Below n w W' := by subst e; exact below_same (h.alloc hn o) rfl rfl rfl rfl
theorem mid_num1 {W W' : World} {k : IntKind} {x : Int} {t : TypeId} (n : Nat) (e : W' = (W.alloc (.cells #[.int k x] t)).drew) (hx : x = (n : Nat)) : NumsAt k W' W.heap.size 0 [n] := by subst e; exact (new_num1 k W x n hx t).heq rfl
theorem cell_mid {W W' : World} {p : Addr} {v : Value} (h : W.cell? p = some v) {o : Obj} (e : W' = (W.alloc o).drew) : W'.cell? p = some v := by
  subst e; exact (World.cell?_of_block (Below.heap_alloc W o p.block (World.block_lt_of_cell? W p h))).trans h
theorem mid_nums {W W' : World} {k : IntKind} {t : TypeId} (l : List Nat) (e : W' = (W.alloc (.cells (numVals k l).toArray t)).drew) : NumsAt k W' W.heap.size 0 l := by subst e; exact (new_nums k W l t).heq rfl
theorem words_next (b : List Nat) (k : Nat) : (List.range (k + 1)).map (beW b) = (List.range k).map (beW b) ++ [beW b k] := by simp [List.range_succ]

set_option maxRecDepth 100000 in
set_option maxHeartbeats 4000000 in
theorem block_any (s b : List Nat) (hsl : s.length = 8) (hS : ∀ x ∈ s, x < 4294967296) (hbl : b.length = 64) (hB : ∀ x ∈ b, x < 256) (gh ch gb ob cb : Nat) (w : World)
    (hh : NumsAt .u32 w gh 0 s) (hgh : gh < w.heap.size) (hb : NumsAt .u8 w gb ob b) (hgb : gb < w.heap.size) :
    Calls Tryd.prog 50 #[.slice (some ⟨gh, 0, none⟩) 8 ch, .slice (some ⟨gb, ob, none⟩) 64 cb] w fun e w' => ∃ v, e = .returned v ∧ Own32 w' w.heap.size v (comp s b) ∧ Below w.heap.size w w' := by
  have HH := Lib.hid hh; have HBB := Lib.hid hb; have HSL := Lib.hid hsl; have HBL := Lib.hid hbl
  clear hh hb hsl hbl
  go_enter Tryd.func50, Tryd.ntmps50
  go_wp2_with fail
  go_loopw [5, 6] (fun v i wr => ∃ k : Nat, k ≤ 16 ∧ i = .int .i64 k ∧ Hid (Own32 wr w.heap.size v ((List.range k).map (beW b))) ∧ Hid (Below w.heap.size w wr)) (fun _ i _ => 16 - (RowKit.intOf i).toNat)
  case atStart => exact ⟨0, by omega, rfl, Own32.nil _ _, Below.refl _ _⟩
  case round =>
    obtain ⟨k, hk, rfl, hown, hbr⟩ := hrel
    by_cases hlt : k < 16
    · have hk1 : (k : Int) < 16 := by omega
      have hk0 : (0 : Int) ≤ (k : Int) := by omega
      have hsize := hbr.out.size
      have hcb : ∀ W, Below w.heap.size w W → W.cell? ⟨gb, ob + (4 * k), none⟩ = some (.int .u8 ((b.getD (4 * k) 0 : Nat) : Int)) ∧ W.cell? ⟨gb, ob + (4 * k + 1), none⟩ = some (.int .u8 ((b.getD (4 * k + 1) 0 : Nat) : Int))
          ∧ W.cell? ⟨gb, ob + (4 * k + 2), none⟩ = some (.int .u8 ((b.getD (4 * k + 2) 0 : Nat) : Int)) ∧ W.cell? ⟨gb, ob + (4 * k + 3), none⟩ = some (.int .u8 ((b.getD (4 * k + 3) 0 : Nat) : Int)) := fun W h => by
        have hbw := HBB.out.below h hgb
        exact ⟨hbw _ (by rw [HBL.out]; omega), hbw _ (by rw [HBL.out]; omega), hbw _ (by rw [HBL.out]; omega), hbw _ (by rw [HBL.out]; omega)⟩
      have l0 := getD_byte hB (4 * k)
      have l1 := getD_byte hB (4 * k + 1)
      have l2 := getD_byte hB (4 * k + 2)
      have l3 := getD_byte hB (4 * k + 3)
      have hbe : beW b k = ((b.getD (4 * k) 0 * 256 + b.getD (4 * k + 1) 0) * 256 + b.getD (4 * k + 2) 0) * 256 + b.getD (4 * k + 3) 0 := rfl
      have hnext := words_next b k
      obtain ⟨x0, e0⟩ : ∃ x, b.getD (4 * k) 0 = x := ⟨_, rfl⟩
      obtain ⟨x1, e1⟩ : ∃ x, b.getD (4 * k + 1) 0 = x := ⟨_, rfl⟩
      obtain ⟨x2, e2⟩ : ∃ x, b.getD (4 * k + 2) 0 = x := ⟨_, rfl⟩
      obtain ⟨x3, e3⟩ : ∃ x, b.getD (4 * k + 3) 0 = x := ⟨_, rfl⟩
      rw [e0] at hcb l0 hbe
      rw [e1] at hcb l1 hbe
      rw [e2] at hcb l2 hbe
      rw [e3] at hcb l3 hbe
      rw [← or4 x0 x1 x2 x3 l0 l1 l2 l3] at hbe
      have m0 : x0 * 16777216 % 4294967296 < 4294967296 := Nat.mod_lt _ (by decide)
      have m1 : x1 * 65536 % 4294967296 < 4294967296 := Nat.mod_lt _ (by decide)
      have m2 : x2 * 256 % 4294967296 < 4294967296 := Nat.mod_lt _ (by decide)
      have m3 : x3 < 4294967296 := by omega
      have s0 : IntKind.u32.wrap ((x0 : Int) * 16777216) = ((x0 * 16777216 % 4294967296 : Nat) : Int) := by rw [IntKind.wrap_u32]; omega
      have s1 : IntKind.u32.wrap ((x1 : Int) * 65536) = ((x1 * 65536 % 4294967296 : Nat) : Int) := by rw [IntKind.wrap_u32]; omega
      have s2 : IntKind.u32.wrap ((x2 : Int) * 256) = ((x2 * 256 % 4294967296 : Nat) : Int) := by rw [IntKind.wrap_u32]; omega
      have i0 : IntKind.u32.wrap (x0 : Int) = (x0 : Int) := by rw [IntKind.wrap_u32]; omega
      have i1 : IntKind.u32.wrap (x1 : Int) = (x1 : Int) := by rw [IntKind.wrap_u32]; omega
      have i2 : IntKind.u32.wrap (x2 : Int) = (x2 : Int) := by rw [IntKind.wrap_u32]; omega
      have i3 : IntKind.u32.wrap (x3 : Int) = (x3 : Int) := by rw [IntKind.wrap_u32]; omega
      obtain ⟨A0, eA0⟩ : ∃ p, x0 * 16777216 % 4294967296 = p := ⟨_, rfl⟩
      obtain ⟨A1, eA1⟩ : ∃ p, x1 * 65536 % 4294967296 = p := ⟨_, rfl⟩
      obtain ⟨A2, eA2⟩ : ∃ p, x2 * 256 % 4294967296 = p := ⟨_, rfl⟩
      rw [eA0] at m0 s0 hbe
      rw [eA1] at m1 s1 hbe
      rw [eA2] at m2 s2 hbe
      have o1 := or32 m0 m1
      have n1 := or_lt32 m0 m1
      obtain ⟨p1, ep1⟩ : ∃ p, A0 ||| A1 = p := ⟨_, rfl⟩
      rw [ep1] at o1 n1 hbe
      have o2 := or32 n1 m2
      have n2 := or_lt32 n1 m2
      obtain ⟨p2, ep2⟩ : ∃ p, p1 ||| A2 = p := ⟨_, rfl⟩
      rw [ep2] at o2 n2 hbe
      have o3 := or32 n2 m3
      obtain ⟨p3, ep3⟩ : ∃ p, p2 ||| x3 = p := ⟨_, rfl⟩
      rw [ep3] at o3 hbe
      have v0 : IntKind.i64.wrap (4 * (k : Int)) = 4 * (k : Int) := IntWalk.i64_in _ (by omega)
      have v1 : IntKind.i64.wrap (4 * (k : Int) + 1) = 4 * (k : Int) + 1 := IntWalk.i64_in _ (by omega)
      have v2 : IntKind.i64.wrap (4 * (k : Int) + 2) = 4 * (k : Int) + 2 := IntWalk.i64_in _ (by omega)
      have v3 : IntKind.i64.wrap (4 * (k : Int) + 3) = 4 * (k : Int) + 3 := IntWalk.i64_in _ (by omega)
      have j0 := at8 gb ob 64 cb (4 * k) (4 * (k : Int)) (by omega) (by omega)
      have j1 := at8 gb ob 64 cb (4 * k + 1) (4 * (k : Int) + 1) (by omega) (by omega)
      have j2 := at8 gb ob 64 cb (4 * k + 2) (4 * (k : Int) + 2) (by omega) (by omega)
      have j3 := at8 gb ob 64 cb (4 * k + 3) (4 * (k : Int) + 3) (by omega) (by omega)
      obtain ⟨q, hq⟩ : ∃ q, (List.range k).map (beW b) = q := ⟨_, rfl⟩
      have hql : q.length + 1 ≤ 17592186044416 := by rw [← hq]; simp; omega
      rw [hq, hbe] at hnext
      rw [hq] at hown
      have HN := Lib.hid hnext; have HCB := Lib.hid hcb
      clear hnext hbe hq e0 e1 e2 e3 eA0 eA1 eA2 ep1 ep2 ep3 hcb m0 m1 m2 m3 n1 n2 l0 l1 l2 l3
      go_wp2_with fail
      go_region_held3 (fun W => W.cell? ⟨gb, ob + (4 * k), none⟩ = some (.int .u8 (x0 : Nat)) ∧ W.cell? ⟨gb, ob + (4 * k + 1), none⟩ = some (.int .u8 (x1 : Nat)) ∧ W.cell? ⟨gb, ob + (4 * k + 2), none⟩ = some (.int .u8 (x2 : Nat)) ∧ W.cell? ⟨gb, ob + (4 * k + 3), none⟩ = some (.int .u8 (x3 : Nat))) (first | exact HCB.out _ (below_same hbr.out rfl rfl rfl rfl) | exact HCB.out _ (mid_below hbr.out hsize rfl) | exact HCB.out _ hb3) ((refine step_push32 (w0 := w) rfl _ _ rfl w.heap.size _ q [p3] rfl (mid32 hown.out rfl) (mid_below hbr.out hsize rfl) (Nat.le_trans hsize (by simp)) wr.heap.size 0 1 1 rfl rfl (mid_num1 p3 rfl rfl) hql ?_; intro v3 W3 ho3 hb3 hg3))
      all_goals (go_wp2; go_roundw; (case rel => exact ⟨k + 1, by omega, by go_num, by rw [HN.out]; exact ho3, hb3⟩); (case measure => simp [RowKit.intOf]; omega))
    · have hk1 : ¬ (k : Int) < 16 := by omega
      have hk16 : k = 16 := by omega
      rw [hk16, show (List.range 16).map (beW b) = sched b 0 from rfl] at hown
      clear hk16 hk hlt
      go_wp2_with fail
      go_loopw [5, 7] (fun v i wr => ∃ k : Nat, 16 ≤ k ∧ k ≤ 64 ∧ i = .int .i64 k ∧ Hid (Own32 wr w.heap.size v (sched b (k - 16))) ∧ Hid (Below w.heap.size w wr)) (fun _ i _ => 64 - (RowKit.intOf i).toNat)
      case atStart => exact ⟨16, by omega, by omega, rfl, hown, hbr⟩
      case round =>
        obtain ⟨k, hk16, hk, rfl, hown, hbr⟩ := hrel
        by_cases hlt : k < 64
        · have hk1 : (k : Int) < 64 := by omega
          have hk2 : (16 : Int) ≤ (k : Int) := by omega
          have hsl := sched_length b (k - 16)
          have hw : wNext (sched b (k - 16)) = add32 (add32 (add32 ((sched b (k - 16)).getD (k - 16) 0) (sg0 ((sched b (k - 16)).getD (k - 15) 0))) ((sched b (k - 16)).getD (k - 7) 0)) (sg1 ((sched b (k - 16)).getD (k - 2) 0)) := by
            unfold wNext; rw [hsl, show 16 + (k - 16) = k by omega]
          have hnext : sched b (k + 1 - 16) = sched b (k - 16) ++ [wNext (sched b (k - 16))] := by rw [show k + 1 - 16 = (k - 16) + 1 by omega]; rfl
          have hSL := sched_lt hB (k - 16)
          obtain ⟨L, hL⟩ : ∃ L, sched b (k - 16) = L := ⟨_, rfl⟩
          rw [hL] at hw hnext hown hsl hSL
          obtain ⟨g, cap, rfl, hcap, hbg, hgl, hnm, _⟩ := hown.out.form k (by omega) (by omega)
          have c16 := hnm (k - 16) (by omega)
          have c15 := hnm (k - 15) (by omega)
          have c7 := hnm (k - 7) (by omega)
          have c2 := hnm (k - 2) (by omega)
          rw [Nat.zero_add] at c16 c15 c7 c2
          have x16l := getD_word hSL (k - 16)
          have x15l := getD_word hSL (k - 15)
          have x7l := getD_word hSL (k - 7)
          have x2l := getD_word hSL (k - 2)
          obtain ⟨x16, e16⟩ : ∃ x, L.getD (k - 16) 0 = x := ⟨_, rfl⟩
          obtain ⟨x15, e15⟩ : ∃ x, L.getD (k - 15) 0 = x := ⟨_, rfl⟩
          obtain ⟨x7, e7⟩ : ∃ x, L.getD (k - 7) 0 = x := ⟨_, rfl⟩
          obtain ⟨x2, e2⟩ : ∃ x, L.getD (k - 2) 0 = x := ⟨_, rfl⟩
          rw [e16] at c16 x16l hw
          rw [e15] at c15 x15l hw
          rw [e7] at c7 x7l hw
          rw [e2] at c2 x2l hw
          have k7 := fun W => rotated_lit x15 7 7 rfl x15l (by decide) (by decide) W
          have k18 := fun W => rotated_lit x15 18 18 rfl x15l (by decide) (by decide) W
          have k17 := fun W => rotated_lit x2 17 17 rfl x2l (by decide) (by decide) W
          have k19 := fun W => rotated_lit x2 19 19 rfl x2l (by decide) (by decide) W
          have l7 := rotr_lt (n := 7) x15l
          have l18 := rotr_lt (n := 18) x15l
          have l17 := rotr_lt (n := 17) x2l
          have l19 := rotr_lt (n := 19) x2l
          have hs0 : sg0 x15 = (rotr x15 7 ^^^ rotr x15 18) ^^^ (x15 / 8) := rfl
          have hs1 : sg1 x2 = (rotr x2 17 ^^^ rotr x2 19) ^^^ (x2 / 1024) := rfl
          obtain ⟨r7, er7⟩ : ∃ r, rotr x15 7 = r := ⟨_, rfl⟩
          obtain ⟨r18, er18⟩ : ∃ r, rotr x15 18 = r := ⟨_, rfl⟩
          obtain ⟨r17, er17⟩ : ∃ r, rotr x2 17 = r := ⟨_, rfl⟩
          obtain ⟨r19, er19⟩ : ∃ r, rotr x2 19 = r := ⟨_, rfl⟩
          rw [er7] at k7 l7 hs0
          rw [er18] at k18 l18 hs0
          rw [er17] at k17 l17 hs1
          rw [er19] at k19 l19 hs1
          have pl := xor_lt32 l7 l18
          have ql := xor_lt32 l17 l19
          have a1 := xor32 l7 l18
          have a2 := xor32 l17 l19
          obtain ⟨p, ep⟩ : ∃ p, r7 ^^^ r18 = p := ⟨_, rfl⟩
          obtain ⟨q, eq⟩ : ∃ q, r17 ^^^ r19 = q := ⟨_, rfl⟩
          rw [ep] at pl a1 hs0
          rw [eq] at ql a2 hs1
          have a3 : bits .xor .u32 (p : Int) ((x15 : Int) / 8) = ((sg0 x15 : Nat) : Int) := by
            rw [show (x15 : Int) / 8 = ((x15 / 8 : Nat) : Int) by omega, xor32 pl (by omega), hs0]
          have a4 : bits .xor .u32 (q : Int) ((x2 : Int) / 1024) = ((sg1 x2 : Nat) : Int) := by
            rw [show (x2 : Int) / 1024 = ((x2 / 1024 : Nat) : Int) by omega, xor32 ql (by omega), hs1]
          obtain ⟨s0, es0⟩ : ∃ s, sg0 x15 = s := ⟨_, rfl⟩
          obtain ⟨s1, es1⟩ : ∃ s, sg1 x2 = s := ⟨_, rfl⟩
          rw [es0] at a3 hw
          rw [es1] at a4 hw
          have b1 := wadd32 x16 s0
          obtain ⟨t1, et1⟩ : ∃ t, add32 x16 s0 = t := ⟨_, rfl⟩
          rw [et1] at b1 hw
          have b2 := wadd32 t1 x7
          obtain ⟨t2, et2⟩ : ∃ t, add32 t1 x7 = t := ⟨_, rfl⟩
          rw [et2] at b2 hw
          have b3 := wadd32 t2 s1
          obtain ⟨t3, et3⟩ : ∃ t, add32 t2 s1 = t := ⟨_, rfl⟩
          rw [et3] at b3 hw
          rw [hw] at hnext
          have v16 : IntKind.i64.wrap ((k : Int) - 16) = (k : Int) - 16 := IntWalk.i64_in _ (by omega)
          have v15 : IntKind.i64.wrap ((k : Int) - 15) = (k : Int) - 15 := IntWalk.i64_in _ (by omega)
          have v7 : IntKind.i64.wrap ((k : Int) - 7) = (k : Int) - 7 := IntWalk.i64_in _ (by omega)
          have v2 : IntKind.i64.wrap ((k : Int) - 2) = (k : Int) - 2 := IntWalk.i64_in _ (by omega)
          have j16 := fun w => at32 g 0 k cap (k - 16) ((k : Int) - 16) (by omega) (by omega) w
          have j15 := fun w => at32 g 0 k cap (k - 15) ((k : Int) - 15) (by omega) (by omega) w
          have j7 := fun w => at32 g 0 k cap (k - 7) ((k : Int) - 7) (by omega) (by omega) w
          have j2 := fun w => at32 g 0 k cap (k - 2) ((k : Int) - 2) (by omega) (by omega) w
          rw [Nat.zero_add] at j16 j15 j7 j2
          have hsize := hbr.out.size
          have hql : L.length + 1 ≤ 17592186044416 := by omega
          have HN := Lib.hid hnext; have K7 := Lib.hid k7; have K18 := Lib.hid k18; have K17 := Lib.hid k17; have K19 := Lib.hid k19; have HSL2 := Lib.hid hsl
          clear hnext k7 k18 k17 k19 hs0 hs1 er7 er18 er17 er19 ep eq es0 es1 et1 et2 et3 e16 e15 e7 e2 hw hL hnm hSL hsl
          go_wp2_with fail
          go_quiet ((first | (go_at_call 55; with_reducible exact q_draw K7.out) | (go_at_call 55; with_reducible exact q_draw K18.out) | (go_at_call 55; with_reducible exact q_draw2 K7.out) | (go_at_call 55; with_reducible exact q_draw2 K18.out)))
          generalize nq = m1
          go_wp2_with fail
          go_quiet ((first | (go_at_call 55; with_reducible exact q_draw K17.out) | (go_at_call 55; with_reducible exact q_draw K19.out) | (go_at_call 55; with_reducible exact q_draw2 K17.out) | (go_at_call 55; with_reducible exact q_draw2 K19.out)))
          generalize hW2 : (wr.drewN m1).drewN nq = W2
          have hheap : W2.heap = wr.heap := by rw [← hW2]; rfl
          have hown2 := hown.out.heq hheap
          have hbr2 : Below w.heap.size w W2 := below_same hbr.out (by rw [← hW2]; rfl) (by rw [← hW2]; rfl) (by rw [← hW2]; rfl) hheap
          have d16 : W2.cell? ⟨g, k - 16, none⟩ = some (.int .u32 (x16 : Nat)) := (World.cell?_of_block (by rw [hheap])).trans c16
          have d7 : W2.cell? ⟨g, k - 7, none⟩ = some (.int .u32 (x7 : Nat)) := (World.cell?_of_block (by rw [hheap])).trans c7
          have hsize2 := hbr2.size
          clear hW2 hheap c16 c15 c7 c2 hown hbr a1 a2 a3 a4 pl ql l7 l18 l17 l19 K7 K18 K17 K19 hsize
          go_wp2_with fail
          go_region_law ((refine step_push32 (w0 := w) rfl _ _ rfl w.heap.size _ L [t3] rfl (mid32 hown2 rfl) (mid_below hbr2 hsize2 rfl) (Nat.le_trans hsize2 (by simp)) W2.heap.size 0 1 1 rfl rfl (mid_num1 t3 rfl rfl) hql ?_; intro v3 W3 ho3 hb3 hg3))
          all_goals (go_wp2; go_roundw; (case rel => exact ⟨k + 1, by omega, by omega, by go_num, by rw [HN.out]; exact ho3, hb3⟩); (case measure => simp [RowKit.intOf]; omega))
        · have hk1 : ¬ (k : Int) < 64 := by omega
          have hk64 : k = 64 := by omega
          rw [hk64, show 64 - 16 = 48 by rfl] at hown
          have hsl := sched_length b 48
          have hSW := sched_lt hB 48
          obtain ⟨gw, capw, rfl, _, _, hgw, hnw, _⟩ := hown.out.form 64 hsl (by omega)
          clear hown hsl
          have HNW := Lib.hid hnw
          have HSW := Lib.hid hSW
          clear hnw hSW
          go_wp2_with fail
          refine (constants_any _).mono ?_
          rintro e w2 ⟨gk, rfl, hnk, hgk, b2⟩
          have hb2 : Below w.heap.size w w2 := hbr.out.trans (b2.mono hbr.out.size)
          have hnw2 := HNW.out.below b2 hgw
          have hgw2 : gw < w2.heap.size := Nat.lt_of_lt_of_le hgw b2.size
          have hh2 := HH.out.below hb2 hgh
          have hgh2 : gh < w2.heap.size := Nat.lt_of_lt_of_le hgh hb2.size
          have HB2 := Lib.hid hb2; have HNK := Lib.hid hnk; have HNW2 := Lib.hid hnw2; have HH2 := Lib.hid hh2
          clear hb2 hnk hnw2 hh2 HNW b2 hbr hgw
          go_wp2_with (first | (at_builtin; refine walk_push32 (w0 := w2) rfl _ _ rfl w2.heap.size _ [] s rfl (Own32.nil _ _) (Below.refl _ _) (Nat.le_refl _) gh 0 8 ch rfl HSL.out HH2.out (by simp) ?_; intro v3 W3 ho3 hb3))
          obtain ⟨gv, capv, rfl, _, hgv1, hgv, hnv, _⟩ := ho3.form 8 (by simpa using HSL.out) (by omega)
          rw [List.nil_append] at hnv
          have hB3 : Below w.heap.size w W3 := HB2.out.trans (hb3.mono HB2.out.size)
          have hk3 := HNK.out.below hb3 hgk
          have hw3 := HNW2.out.below hb3 hgw2
          have hh3 := HH2.out.below hb3 hgh2
          have hz3 := hb3.size
          have HB3 := Lib.hid hB3; have HK3 := Lib.hid hk3; have HW3 := Lib.hid hw3; have HH3 := Lib.hid hh3; have HV3 := Lib.hid hnv
          have hgk3 : gk < W3.heap.size := by omega
          have hgw3 : gw < W3.heap.size := by omega
          have hgh3 : gh < W3.heap.size := by omega
          clear hB3 hk3 hw3 hh3 hnv ho3 hb3 HB2 HNK HNW2 HH2 hgk hgw2 hgh2 hz3 hgv1
          go_wp2_with fail
          go_loopw [11, 12] (fun v i wr => ∃ (k gv cv : Nat), k ≤ 64 ∧ i = .int .i64 k ∧ v = .slice (some ⟨gv, 0, none⟩) 8 cv ∧ gv < wr.heap.size ∧ Hid (NumsAt .u32 wr gv 0 (rnds (sched b 48) s k)) ∧ Hid (Below W3.heap.size W3 wr)) (fun _ i _ => 64 - (RowKit.intOf i).toNat)
          case atStart => exact ⟨0, gv, capv, by omega, rfl, rfl, hgv, HV3.out, Below.refl _ _⟩
          case round =>
            obtain ⟨k, gv, cv, hk, rfl, rfl, hgv, hnv, hbr⟩ := hrel
            by_cases hlt : k < 64
            · have hk1 : (k : Int) < 64 := by omega
              have hk2 : (0 : Int) ≤ (k : Int) := by omega
              have hlen := rnds_length (sched b 48) s HSL.out k
              obtain ⟨a, b1, c, d, e, f, g, h, hr⟩ := eight hlen
              have hall := rnds_lt (sched b 48) hS k
              rw [hr] at hall hnv
              have la := hall a (by simp); have lb := hall b1 (by simp); have lc := hall c (by simp); have ld := hall d (by simp)
              have le := hall e (by simp); have lf := hall f (by simp); have lg := hall g (by simp); have lh := hall h (by simp)
              have hnext : rnds (sched b 48) s (k + 1) = [add32 (shaT e f g h (shaK.getD k 0) ((sched b 48).getD k 0)) (shaU a b1 c), a, b1, c, add32 d (shaT e f g h (shaK.getD k 0) ((sched b 48).getD k 0)), e, f, g] := by
                rw [rnds, hr]; rfl
              have c0 : wr.cell? ⟨gv, 0, none⟩ = some (.int .u32 (a : Nat)) := hnv.out 0 (by simp)
              have c1 : wr.cell? ⟨gv, 1, none⟩ = some (.int .u32 (b1 : Nat)) := hnv.out 1 (by simp)
              have c2 : wr.cell? ⟨gv, 2, none⟩ = some (.int .u32 (c : Nat)) := hnv.out 2 (by simp)
              have c3 : wr.cell? ⟨gv, 3, none⟩ = some (.int .u32 (d : Nat)) := hnv.out 3 (by simp)
              have c4 : wr.cell? ⟨gv, 4, none⟩ = some (.int .u32 (e : Nat)) := hnv.out 4 (by simp)
              have c5 : wr.cell? ⟨gv, 5, none⟩ = some (.int .u32 (f : Nat)) := hnv.out 5 (by simp)
              have c6 : wr.cell? ⟨gv, 6, none⟩ = some (.int .u32 (g : Nat)) := hnv.out 6 (by simp)
              have c7 : wr.cell? ⟨gv, 7, none⟩ = some (.int .u32 (h : Nat)) := hnv.out 7 (by simp)
              have ck := (HK3.out.below hbr.out hgk3) k (by show k < 64; omega)
              have cw := (HW3.out.below hbr.out hgw3) k (by rw [sched_length]; omega)
              rw [Nat.zero_add] at ck cw
              have lk := getD_word shaK_lt k
              have lw := getD_word HSW.out k
              have hT : shaT e f g h (shaK.getD k 0) ((sched b 48).getD k 0) = add32 (add32 (add32 (add32 h ((rotr e 6 ^^^ rotr e 11) ^^^ rotr e 25)) ((e &&& f) ^^^ ((4294967295 - e) &&& g))) (shaK.getD k 0)) ((sched b 48).getD k 0) := rfl
              have hU : shaU a b1 c = add32 ((rotr a 2 ^^^ rotr a 13) ^^^ rotr a 22) (((a &&& b1) ^^^ (a &&& c)) ^^^ (b1 &&& c)) := rfl
              obtain ⟨kk, ekk⟩ : ∃ x, shaK.getD k 0 = x := ⟨_, rfl⟩
              obtain ⟨ww, eww⟩ : ∃ x, (sched b 48).getD k 0 = x := ⟨_, rfl⟩
              rw [ekk] at ck lk
              rw [eww] at cw lw
              rw [ekk, eww] at hT hnext
              obtain ⟨T, eT⟩ : ∃ x, shaT e f g h kk ww = x := ⟨_, rfl⟩
              obtain ⟨U, eU⟩ : ∃ x, shaU a b1 c = x := ⟨_, rfl⟩
              rw [eT] at hT hnext
              rw [eU] at hU hnext
              have k6 := fun W => rotated_lit e 6 6 rfl le (by decide) (by decide) W
              have k11 := fun W => rotated_lit e 11 11 rfl le (by decide) (by decide) W
              have k25 := fun W => rotated_lit e 25 25 rfl le (by decide) (by decide) W
              have k2 := fun W => rotated_lit a 2 2 rfl la (by decide) (by decide) W
              have k13 := fun W => rotated_lit a 13 13 rfl la (by decide) (by decide) W
              have k22 := fun W => rotated_lit a 22 22 rfl la (by decide) (by decide) W
              have l6 := rotr_lt (n := 6) le
              have l11 := rotr_lt (n := 11) le
              have l25 := rotr_lt (n := 25) le
              have l2 := rotr_lt (n := 2) la
              have l13 := rotr_lt (n := 13) la
              have l22 := rotr_lt (n := 22) la
              obtain ⟨r6, e6⟩ : ∃ x, rotr e 6 = x := ⟨_, rfl⟩
              obtain ⟨r11, e11⟩ : ∃ x, rotr e 11 = x := ⟨_, rfl⟩
              obtain ⟨r25, e25⟩ : ∃ x, rotr e 25 = x := ⟨_, rfl⟩
              obtain ⟨r2, e2⟩ : ∃ x, rotr a 2 = x := ⟨_, rfl⟩
              obtain ⟨r13, e13⟩ : ∃ x, rotr a 13 = x := ⟨_, rfl⟩
              obtain ⟨r22, e22⟩ : ∃ x, rotr a 22 = x := ⟨_, rfl⟩
              rw [e6] at k6 l6 hT; rw [e11] at k11 l11 hT; rw [e25] at k25 l25 hT
              rw [e2] at k2 l2 hU; rw [e13] at k13 l13 hU; rw [e22] at k22 l22 hU
              have x1 := xor32 l6 l11
              have m1 := xor_lt32 l6 l11
              obtain ⟨p1, ep1⟩ : ∃ x, r6 ^^^ r11 = x := ⟨_, rfl⟩
              rw [ep1] at x1 m1 hT
              have x2 := xor32 m1 l25
              have m2 := xor_lt32 m1 l25
              obtain ⟨p2, ep2⟩ : ∃ x, p1 ^^^ r25 = x := ⟨_, rfl⟩
              rw [ep2] at x2 m2 hT
              have x4 := and32 le lf
              have m4 := and_lt32 f le
              obtain ⟨p4, ep4⟩ : ∃ x, e &&& f = x := ⟨_, rfl⟩
              rw [ep4] at x4 m4 hT
              have x5 := not32 le
              have x5' : bits BinOp.xor IntKind.u32 (if IntKind.u32.signed = true then -1 else IntKind.u32.max) (e : Int) = ((4294967295 - e : Nat) : Int) := x5
              have m5 : 4294967295 - e < 4294967296 := by omega
              obtain ⟨p5, ep5⟩ : ∃ x, 4294967295 - e = x := ⟨_, rfl⟩
              rw [ep5] at x5 x5' m5 hT
              have x6 := and32 m5 lg
              have m6 := and_lt32 g m5
              obtain ⟨p6, ep6⟩ : ∃ x, p5 &&& g = x := ⟨_, rfl⟩
              rw [ep6] at x6 m6 hT
              have x7 := xor32 m4 m6
              obtain ⟨p7, ep7⟩ : ∃ x, p4 ^^^ p6 = x := ⟨_, rfl⟩
              rw [ep7] at x7 hT
              have y1 := xor32 l2 l13
              have n1 := xor_lt32 l2 l13
              obtain ⟨q1, eq1⟩ : ∃ x, r2 ^^^ r13 = x := ⟨_, rfl⟩
              rw [eq1] at y1 n1 hU
              have y2 := xor32 n1 l22
              obtain ⟨q2, eq2⟩ : ∃ x, q1 ^^^ r22 = x := ⟨_, rfl⟩
              rw [eq2] at y2 hU
              have y3 := and32 la lb
              have n3 := and_lt32 b1 la
              obtain ⟨q3, eq3⟩ : ∃ x, a &&& b1 = x := ⟨_, rfl⟩
              rw [eq3] at y3 n3 hU
              have y4 := and32 la lc
              have n4 := and_lt32 c la
              obtain ⟨q4, eq4⟩ : ∃ x, a &&& c = x := ⟨_, rfl⟩
              rw [eq4] at y4 n4 hU
              have y5 := xor32 n3 n4
              have n5 := xor_lt32 n3 n4
              obtain ⟨q5, eq5⟩ : ∃ x, q3 ^^^ q4 = x := ⟨_, rfl⟩
              rw [eq5] at y5 n5 hU
              have y6 := and32 lb lc
              have n6 := and_lt32 c lb
              obtain ⟨q6, eq6⟩ : ∃ x, b1 &&& c = x := ⟨_, rfl⟩
              rw [eq6] at y6 n6 hU
              have y7 := xor32 n5 n6
              obtain ⟨q7, eq7⟩ : ∃ x, q5 ^^^ q6 = x := ⟨_, rfl⟩
              rw [eq7] at y7 hU
              have hTT : (((h : Int) + (p2 : Int) + (p7 : Int) + (kk : Int)) % 4294967296 + (ww : Int)) % 4294967296 = (T : Int) := by rw [hT]; unfold add32; omega
              have hUU : ((q2 : Int) + (q7 : Int)) % 4294967296 = (U : Int) := by rw [hU]; unfold add32; omega
              have w6 := wadd32 T U
              have w7 := wadd32 d T
              obtain ⟨dT, edT⟩ : ∃ x, add32 d T = x := ⟨_, rfl⟩
              obtain ⟨tU, etU⟩ : ∃ x, add32 T U = x := ⟨_, rfl⟩
              rw [edT] at w7 hnext
              rw [etU] at w6 hnext
              have hsize := hbr.out.size
              have HX := Lib.hid hnext; have K6 := Lib.hid k6; have K11 := Lib.hid k11; have K25 := Lib.hid k25; have K2 := Lib.hid k2; have K13 := Lib.hid k13; have K22 := Lib.hid k22
              clear hr hall hlen hnext hT hU ekk eww eT eU e6 e11 e25 e2 e13 e22 k6 k11 k25 k2 k13 k22 ep1 ep2 ep4 ep5 ep6 ep7 eq1 eq2 eq3 eq4 eq5 eq6 eq7 edT etU hnv
              go_wp2_with fail
              go_quiet ((first | (go_at_call 55; with_reducible exact q_draw K6.out) | (go_at_call 55; with_reducible exact q_draw K11.out) | (go_at_call 55; with_reducible exact q_draw K25.out)))
              generalize nq = m1
              rw [hTT]
              go_wp2_with fail
              go_quiet ((first | (go_at_call 55; with_reducible exact q_draw K2.out) | (go_at_call 55; with_reducible exact q_draw K13.out) | (go_at_call 55; with_reducible exact q_draw K22.out) | (go_at_call 55; with_reducible exact q_draw2 K2.out) | (go_at_call 55; with_reducible exact q_draw2 K13.out) | (go_at_call 55; with_reducible exact q_draw2 K22.out)))
              rw [hUU]
              generalize hW2 : (wr.drewN m1).drewN nq = W2
              have hheap : W2.heap = wr.heap := by rw [← hW2]; rfl
              have hbr2 : Below W3.heap.size W3 W2 := below_same hbr.out (by rw [← hW2]; rfl) (by rw [← hW2]; rfl) (by rw [← hW2]; rfl) hheap
              have d1 : W2.cell? ⟨gv, 1, none⟩ = some (.int .u32 (b1 : Nat)) := (World.cell?_of_block (by rw [hheap])).trans c1
              have d2 : W2.cell? ⟨gv, 2, none⟩ = some (.int .u32 (c : Nat)) := (World.cell?_of_block (by rw [hheap])).trans c2
              have d3 : W2.cell? ⟨gv, 3, none⟩ = some (.int .u32 (d : Nat)) := (World.cell?_of_block (by rw [hheap])).trans c3
              have d5 : W2.cell? ⟨gv, 5, none⟩ = some (.int .u32 (f : Nat)) := (World.cell?_of_block (by rw [hheap])).trans c5
              have d6 : W2.cell? ⟨gv, 6, none⟩ = some (.int .u32 (g : Nat)) := (World.cell?_of_block (by rw [hheap])).trans c6
              have hsize2 := hbr2.size
              clear hW2 hheap c0 c1 c2 c3 c4 c5 c6 c7 ck cw hbr x1 x2 x4 x5 x5' x6 x7 y1 y2 y3 y4 y5 y6 y7 m1 m2 m4 m5 m6 n1 n3 n4 n5 n6 hTT hUU K6 K11 K25 K2 K13 K22 hsize l6 l11 l25 l2 l13 l22
              go_wp2_with fail
              go_region_held3 (fun W => W.cell? ⟨gv, 1, none⟩ = some (.int .u32 (b1 : Nat)) ∧ W.cell? ⟨gv, 2, none⟩ = some (.int .u32 (c : Nat)) ∧ W.cell? ⟨gv, 3, none⟩ = some (.int .u32 (d : Nat)) ∧ W.cell? ⟨gv, 5, none⟩ = some (.int .u32 (f : Nat)) ∧ W.cell? ⟨gv, 6, none⟩ = some (.int .u32 (g : Nat)))
                (first | exact ⟨d1, d2, d3, d5, d6⟩ | exact ⟨cell_mid d1 rfl, cell_mid d2 rfl, cell_mid d3 rfl, cell_mid d5 rfl, cell_mid d6 rfl⟩) (fail)
              all_goals (go_wp2; go_roundw; (case rel => exact ⟨k + 1, W2.heap.size, 8, by omega, by go_num, rfl, by simp, by rw [HX.out]; exact mid_nums [tU, a, b1, c, dT, e, f, g] rfl, mid_below hbr2 hsize2 rfl⟩); (case measure => simp [RowKit.intOf]; omega))
            · have hk1 : ¬ (k : Int) < 64 := by omega
              have hk64 : k = 64 := by omega
              rw [hk64] at hnv
              have hcmp : comp s b = addL s (rnds (sched b 48) s 64) := rfl
              have hLl := rnds_length (sched b 48) s HSL.out 64
              have hLt := rnds_lt (sched b 48) hS 64
              have hB4 : Below w.heap.size w wr := HB3.out.trans (hbr.out.mono HB3.out.size)
              have hh4 := HH3.out.below hbr.out hgh3
              have hgh4 : gh < wr.heap.size := Nat.lt_of_lt_of_le hgh3 hbr.out.size
              obtain ⟨L, hL⟩ : ∃ L, rnds (sched b 48) s 64 = L := ⟨_, rfl⟩
              rw [hL] at hnv hcmp hLl hLt
              obtain ⟨W4, hW4⟩ : ∃ W : World, W = wr := ⟨_, rfl⟩
              rw [← hW4] at hnv hB4 hh4 hgh4 hgv ⊢
              have HV4 := Lib.hid hnv.out; have HB4 := Lib.hid hB4; have HH4 := Lib.hid hh4; have HCM := Lib.hid hcmp; have HLL := Lib.hid hLl; have HLT := Lib.hid hLt
              clear hk64 hk hlt hnv hB4 hh4 hbr hW4 hcmp hLl hLt hL HB3 HK3 HW3 HH3 HV3 HSW
              go_wp2_with fail
              go_loopw [17, 18] (fun v i wr => ∃ k : Nat, k ≤ 8 ∧ i = .int .i64 k ∧ Hid (Own32 wr W4.heap.size v ((addL s L).take k)) ∧ Hid (Below W4.heap.size W4 wr)) (fun _ i _ => 8 - (RowKit.intOf i).toNat)
              case atStart => exact ⟨0, by omega, rfl, Own32.nil _ _, Below.refl _ _⟩
              case round =>
                obtain ⟨k, hk, rfl, hown, hbr⟩ := hrel
                by_cases hlt : k < 8
                · have hk1 : (k : Int) < 8 := by omega
                  have hk2 : (0 : Int) ≤ (k : Int) := by omega
                  have hsize := hbr.out.size
                  have hcb : ∀ W, Below W4.heap.size W4 W → W.cell? ⟨gh, k, none⟩ = some (.int .u32 ((s.getD k 0 : Nat) : Int)) ∧ W.cell? ⟨gv, k, none⟩ = some (.int .u32 ((L.getD k 0 : Nat) : Int)) := fun W hW => by
                    have e1 := HH4.out.below hW hgh4 k (by rw [HSL.out]; omega)
                    have e2 := HV4.out.below hW hgv k (by rw [HLL.out]; omega)
                    rw [Nat.zero_add] at e1 e2
                    exact ⟨e1, e2⟩
                  have hnext := take_next (addL s L) k (by rw [addL_length _ _ (by rw [HSL.out, HLL.out]), HSL.out]; exact hlt)
                  rw [addL_get s L k (by rw [HSL.out, HLL.out]) (by rw [HSL.out]; exact hlt)] at hnext
                  obtain ⟨x, ex⟩ : ∃ x, s.getD k 0 = x := ⟨_, rfl⟩
                  obtain ⟨y, ey⟩ : ∃ x, L.getD k 0 = x := ⟨_, rfl⟩
                  rw [ex] at hcb hnext
                  rw [ey] at hcb hnext
                  have z := wadd32 x y
                  obtain ⟨r, hr⟩ : ∃ r, add32 x y = r := ⟨_, rfl⟩
                  rw [hr] at z hnext
                  obtain ⟨q, hq⟩ : ∃ q, (addL s L).take k = q := ⟨_, rfl⟩
                  have hql : q.length + 1 ≤ 17592186044416 := by rw [← hq, List.length_take]; omega
                  rw [hq] at hown hnext
                  have HN := Lib.hid hnext; have HCB := Lib.hid hcb
                  clear hnext hcb ex ey hr hq
                  go_wp2_with fail
                  go_region_held3 (fun W => W.cell? ⟨gh, k, none⟩ = some (.int .u32 (x : Nat)) ∧ W.cell? ⟨gv, k, none⟩ = some (.int .u32 (y : Nat)))
                    (first | exact HCB.out _ (below_same hbr.out rfl rfl rfl rfl) | exact HCB.out _ (mid_below hbr.out hsize rfl) | exact HCB.out _ hb3)
                    ((refine step_push32 (w0 := W4) rfl _ _ rfl W4.heap.size _ q [r] rfl (mid32 hown.out rfl) (mid_below hbr.out hsize rfl) (Nat.le_trans hsize (by simp)) wr.heap.size 0 1 1 rfl rfl (mid_num1 r rfl rfl) hql ?_; intro v3 W3 ho3 hb3 hg3))
                  all_goals (go_wp2; go_roundw; (case rel => exact ⟨k + 1, by omega, by go_num, by rw [HN.out]; exact ho3, hb3⟩); (case measure => simp [RowKit.intOf]; omega))
                · have hk1 : ¬ (k : Int) < 8 := by omega
                  have hk8 : k = 8 := by omega
                  have hfin : ∀ v, Own32 wr W4.heap.size v ((addL s L).take 8) → Own32 wr w.heap.size v (comp s b) := by
                    intro v h
                    rw [List.take_of_length_le (by rw [addL_length _ _ (by rw [HSL.out, HLL.out]), HSL.out]; omega), ← HCM.out] at h
                    exact own_base h HB4.out.size
                  have hbf : Below w.heap.size w wr := HB4.out.trans (hbr.out.mono HB4.out.size)
                  subst hk8
                  have HF := Lib.hid hfin
                  clear hfin
                  go_wp2_with fail
                  go_ret
                  exact ⟨_, rfl, HF.out _ hown.out, hbf⟩
end Go.Proofs.YtdolmahodhgfpaaDoor
