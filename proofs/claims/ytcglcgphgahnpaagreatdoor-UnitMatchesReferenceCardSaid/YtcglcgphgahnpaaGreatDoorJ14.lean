/-
  A step of a calculation (a function value), and the program's build: what a list of steps makes of two texts.
-/
import Derived.Test.YtcglcgphgahnpaaGreatDoorJ12
import Derived.Laws.AppendOwnNone
set_option maxRecDepth 100000
set_option maxHeartbeats 16000000
namespace Go.Proofs.YtcglcgphgahnpaaGreatDoor
open Go Go.Proofs Go.RowKit Go.Lib
def StepPost (o : Option (ByteArray × ByteArray)) (w : World) (e : Ending) (w' : World) : Prop := match o with
 | some p => e = .returned (.tuple #[.string p.1, .string p.2, .int .i64 0]) ∧ Below w.heap.size w w'
 | none => ∃ (n d : ByteArray) (c : Int), c ≠ 0 ∧ e = .returned (.tuple #[.string n, .string d, .int .i64 c]) ∧ Below w.heap.size w w'
def SmallF (f : StepF) : Prop := ∀ s t a b : ByteArray, s.size ≤ 1099511627776 → t.size ≤ 1099511627776 → f s t = some (a, b) → a.size ≤ 1099511627776 ∧ b.size ≤ 1099511627776
def StepIs (w : World) (v : Value) (f : StepF) : Prop := SmallF f ∧ ∃ (g : Nat) (caps : Array Value), v = .func (.func g) #[] caps ∧
 (∀ args W, (callFunc g args).run Tryz.prog W = .ok (.enter g args) W) ∧
 ∀ (s t : ByteArray) (W : World), s.size ≤ 1099511627776 → t.size ≤ 1099511627776 → Below w.heap.size w W → Calls Tryz.prog g (#[.string s, .string t] ++ caps) W (StepPost (f s t) W)
theorem StepIs.below {w W : World} {v : Value} {f : StepF} (h : StepIs w v f) (b : Below w.heap.size w W) : StepIs W v f := by
 obtain ⟨h0, g, caps, h1, h2, h3⟩ := h
 exact ⟨h0, g, caps, h1, h2, fun s t W' hs ht b' => h3 s t W' hs ht (below_up b b')⟩
def StepsIs (w : World) : List Value → List StepF → Prop
 | [], [] => True
 | v :: vs, f :: fs => StepIs w v f ∧ StepsIs w vs fs
 | _, _ => False
theorem StepsIs.below {w W : World} (b : Below w.heap.size w W) : ∀ {vs : List Value} {fs : List StepF}, StepsIs w vs fs → StepsIs W vs fs
 | [], [], _ => trivial
 | _ :: _, _ :: _, h => ⟨h.1.below b, StepsIs.below b h.2⟩
 | [], _ :: _, h => h.elim
 | _ :: _, [], h => h.elim
theorem StepsIs.append {w : World} {us : List Value} {gs : List StepF} (h2 : StepsIs w us gs) : ∀ {vs : List Value} {fs : List StepF}, StepsIs w vs fs → StepsIs w (vs ++ us) (fs ++ gs)
 | [], [], _ => h2
 | _ :: _, _ :: _, h => ⟨h.1, StepsIs.append h2 h.2⟩
 | [], _ :: _, h => h.elim
 | _ :: _, [], h => h.elim
theorem StepsIs.length {w : World} : ∀ {vs : List Value} {fs : List StepF}, StepsIs w vs fs → vs.length = fs.length
 | [], [], _ => rfl
 | _ :: _, _ :: _, h => congrArg (· + 1) (StepsIs.length h.2)
 | [], _ :: _, h => h.elim
 | _ :: _, [], h => h.elim
theorem StepsIs.get {w : World} : ∀ {vs : List Value} {fs : List StepF}, StepsIs w vs fs → ∀ k, k < vs.length → ∃ v f, vs[k]? = some v ∧ fs.drop k = f :: fs.drop (k + 1) ∧ StepIs w v f
 | v :: _, f :: _, h, 0, _ => ⟨v, f, rfl, rfl, h.1⟩
 | _ :: vs, _ :: fs, h, k + 1, hk => by
  obtain ⟨v, f, h1, h2, h3⟩ := StepsIs.get h.2 k (by simpa using hk)
  exact ⟨v, f, by simpa using h1, by simpa using h2, h3⟩
 | [], [], _, _, hk => by simp at hk
 | [], _ :: _, h, _, _ => h.elim
 | _ :: _, [], h, _, _ => h.elim
def StepsAt (w : World) (v : Value) (vals : List Value) : Prop :=
 (v = .slice none 0 0 ∧ vals = []) ∨ ∃ g, v = .slice (some ⟨g, 0, none⟩) vals.length vals.length ∧ ∀ j u, vals[j]? = some u → w.cell? ⟨g, j, none⟩ = some u
theorem StepsAt.below {w W : World} {v : Value} {vals : List Value} (h : StepsAt w v vals) (b : Below w.heap.size w W) : StepsAt W v vals := by
 rcases h with h | ⟨g, h1, h2⟩
 · exact .inl h
 refine .inr ⟨g, h1, fun j u hj => ?_⟩
 have hc := h2 j u hj
 rw [b.cell (p := ⟨g, j, none⟩) (World.block_lt_of_cell? w ⟨g, j, none⟩ hc)]
 exact hc
theorem steps_under : Tryz.prog.underlying 128 = some (.slice 104) := by kernel_rfl
theorem steps_info : (Tryz.prog.info? 104).bind (fun i => some (i.zero, i.size, i.bytes)) = some (some Value.nilFunc, 1, 8) := by kernel_rfl
theorem add_cell (g j : Nat) : (⟨g, 0, none⟩ : Addr).add j = ⟨g, j, none⟩ := by unfold Addr.add; split <;> simp_all
theorem cells_new (W : World) (l : List Value) (z : Array Value) (t : TypeId) (j : Nat) (u : Value) (h : l[j]? = some u) : (W.alloc (.cells (l.toArray ++ z) t)).cell? ⟨W.heap.size, j, none⟩ = some u := by
 have hj : j < l.length := by
  rcases Nat.lt_or_ge j l.length with h2 | h2
  · exact h2
  rw [List.getElem?_eq_none h2] at h; cases h
 have h2 := heap_alloc_new W (.cells (l.toArray ++ z) t)
 simp only [World.cell?, h2]
 simp [Array.getElem?_append_left (xs := l.toArray) (ys := z) (i := j) (by simpa using hj), h]
theorem run_join (w w0 : World) (n : Nat) (hn : n ≤ w.heap.size) (ty : TypeId) (v : Value) (vals : List Value) (hv : StepsAt w v vals) (hl : vals.length ≤ 1000) (b : Nat) (x y : Value) (hx : w.cell? ⟨b, 0, none⟩ = some x) (hy : w.cell? ⟨b, 1, none⟩ = some y) (hb : Below n w0 w) :
 ∃ w' g cap, (Builtin.append_ #[128, 128] ty #[v, .slice (some ⟨b, 0, none⟩) 2 2]).run Tryz.prog w = .ok (.slice (some ⟨g, 0, none⟩) (vals.length + 2) cap) w' ∧
  (∀ j u, (vals ++ [x, y])[j]? = some u → w'.cell? ⟨g, j, none⟩ = some u) ∧ Below n w0 w' := by
 obtain ⟨i, hi⟩ : ∃ i, Tryz.prog.info? 104 = some i := by
  cases h : Tryz.prog.info? 104 with
  | none => have := steps_info; rw [h] at this; cases this
  | some i => exact ⟨i, rfl⟩
 have hi2 := steps_info
 rw [hi] at hi2
 simp only [Option.bind_some, Option.some.injEq, Prod.mk.injEq] at hi2
 obtain ⟨hz, hs, hby⟩ := hi2
 have hnew : ∀ j u, ([x, y] : List Value)[j]? = some u → w.cell? ((⟨b, 0, none⟩ : Addr).add j) = some u := by
  intro j u hj
  rw [add_cell]
  match j, hj with
  | 0, hj => simp at hj; rw [← hj]; exact hx
  | 1, hj => simp at hj; rw [← hj]; exact hy
  | j + 2, hj => simp at hj
 rcases hv with ⟨rfl, rfl⟩ | ⟨g, rfl, hc⟩
 · exact ⟨_, _, _, run_append_nil (P := Tryz.prog) (w := w) 128 ty 104 i _ steps_under hi hz ⟨b, 0, none⟩ 2 2 [x, y] (by rw [hs]; rfl) hnew (by omega) (by omega) (by rw [hby]; omega),
    fun j u hj => cells_new w.drew [x, y] _ _ j u hj, hb.trans ((Below.alloc (Below.drew (Below.refl _ _)) (Nat.le_refl _) _).mono hn)⟩
 have hfit : Builtin.nextslicecap (vals.length + 2) vals.length * i.bytes ≤ 281474976710656 := by
  rw [hby]
  exact growslice_fits (by omega) (by omega)
 have hr := run_append_grow (P := Tryz.prog) (w := w) 128 ty 104 i _ steps_under hi hz ⟨g, 0, none⟩ vals.length vals.length vals (by rw [hs, Nat.mul_one]) (fun j u hj => by rw [add_cell]; exact hc j u hj) ⟨b, 0, none⟩ 2 2 [x, y] (by rw [hs]; rfl) hnew (by omega) (by omega) hfit
 have e : (vals ++ [x, y]).toArray = vals.toArray ++ [x, y].toArray := by simp
 rw [← e] at hr
 refine ⟨_, _, _, hr, fun j u hj => ?_, hb.trans ((Below.alloc (Below.drew (Below.refl _ _)) (Nat.le_refl _) _).mono hn)⟩
 exact cells_new w.drew (vals ++ [x, y]) _ _ j u hj
theorem walk_join {ops : Array Oper} {o : Oper} {rest : List Oper} {a : Act} {w w0 : World} {Q : Exit → Act → World → Prop}
 (hgd : o.guard = none) (s t : Operand) (hop : o.op = Op.call { callee := Callee.builtin Builtin.append, args := #[s, t], argTypes := #[128, 128] })
 (n : Nat) (hn : n ≤ w.heap.size) (v : Value) (vals : List Value) (hs : a.eval s = v) (hv : StepsAt w v vals) (hl : vals.length ≤ 1000) (b : Nat) (x y : Value) (ht : a.eval t = .slice (some ⟨b, 0, none⟩) 2 2) (hx : w.cell? ⟨b, 0, none⟩ = some x) (hy : w.cell? ⟨b, 1, none⟩ = some y) (hb : Below n w0 w)
 (hK : ∀ w' g cap, (∀ j u, (vals ++ [x, y])[j]? = some u → w'.cell? ⟨g, j, none⟩ = some u) → Below n w0 w' → wpList Tryz.prog ops Q rest (a.put o.dst (.slice (some ⟨g, 0, none⟩) (vals.length + 2) cap)) w') : wpList Tryz.prog ops Q (o :: rest) a w := by
 refine wpList_plain hgd fun K hK' => ?_
 obtain ⟨w', g, cap, hrun, r1, r2⟩ := run_join w w0 n hn o.type v vals hv hl b x y hx hy hb
 unfold Oper.wp
 simp [execOp, hop, resolve, invoke, builtin, hs, ht, hrun, Result.andThen]
 exact hK' _ _ (hK w' g cap r1 r2)
theorem at_step (g m cap k : Nat) (hk : k < m) (w : World) : (Instr.indexAt 128 (.slice (some ⟨g, 0, none⟩) m cap) (.int .i64 (k : Int))).run Tryz.prog w = .ok (.pointer (some ⟨g, k, none⟩)) w := by
 have hu : Tryz.prog.underlying 128 = some (.slice (Tryz.prog.elem 128)) := by kernel_rfl
 have hs : (Go.sizeOf (Tryz.prog.elem 128)).run Tryz.prog w = .ok 1 w := by kernel_rfl
 rw [run_indexAt_slice w 128 _ _ _ _ _ hu, if_pos (by omega)]
 simp [hs, add_cell, Result.andThen]
def BuildInv (F : List StepF) (s t : ByteArray) (k : Nat) (x y : ByteArray) (z : Int) : Prop :=
 (z = 0 ∧ x.size ≤ 1099511627776 ∧ y.size ≤ 1099511627776 ∧ chain (F.drop k) x y = chain F s t) ∨ (z ≠ 0 ∧ chain F s t = none)
theorem build_any (s t : ByteArray) (hs : s.size ≤ 1099511627776) (ht : t.size ≤ 1099511627776) (v : Value) (vals : List Value) (fs : List StepF) (w : World) (hv : StepsAt w v vals) (hf : StepsIs w vals fs) (hl : vals.length ≤ 1000)
 (hu : StepIs w (.func (.func 143) #[] #[]) unsF) (hlow : StepIs w (.func (.func 144) #[] #[]) lowF) :
 Calls Tryz.prog 117 #[.string s, .string t, v] w fun e w' => e = .returned (.tuple #[.agg #[.string (pairN (chain (fs ++ [unsF, lowF]) s t)), .string (pairD (chain (fs ++ [unsF, lowF]) s t))], .int .i64 (pairE (chain (fs ++ [unsF, lowF]) s t))]) ∧ Below w.heap.size w w' := by
 obtain ⟨W0, hW0, b0, hcc⟩ := box_one w ⟨#[]⟩ ⟨#[]⟩
 obtain ⟨W1, hW1⟩ : ∃ W1, W0.alloc (.cells #[.func (.func 143) #[] #[], .func (.func 144) #[] #[]] 104) = W1 := ⟨_, rfl⟩
 have b1 : Below W0.heap.size W0 W1 := by rw [← hW1]; exact (Below.refl _ _).alloc (Nat.le_refl _) _
 have hc1 := heap_alloc_new W0 (.cells #[.func (.func 143) #[] #[], .func (.func 144) #[] #[]] 104)
 rw [hW1] at hc1
 have hx : W1.cell? ⟨W0.heap.size, 0, none⟩ = some (.func (.func 143) #[] #[]) := by simp [World.cell?, hc1]
 have hy : W1.cell? ⟨W0.heap.size, 1, none⟩ = some (.func (.func 144) #[] #[]) := by simp [World.cell?, hc1]
 have h2 : StepsIs w [.func (.func 143) #[] #[], .func (.func 144) #[] #[]] [unsF, lowF] := ⟨hu, hlow, trivial⟩
 have hall : StepsIs w (vals ++ [.func (.func 143) #[] #[], .func (.func 144) #[] #[]]) (fs ++ [unsF, lowF]) := StepsIs.append h2 hf
 obtain ⟨all, hal⟩ : ∃ all, vals ++ [.func (.func 143) #[] #[], .func (.func 144) #[] #[]] = all := ⟨_, rfl⟩
 obtain ⟨F, hF⟩ : ∃ F, fs ++ [unsF, lowF] = F := ⟨_, rfl⟩
 have hlen : all.length = vals.length + 2 := by rw [← hal]; simp
 have hFl : all.length = F.length := by rw [← hal, ← hF]; exact StepsIs.length hall
 rw [hal, hF] at hall
 rw [hF]
 have hv1 := hv.below (below_up b0 b1)
 have HW := hid hW0; have HC := hid hcc; have B0 := hid b0; have B1 := hid b1
 have HW1 := hid hW1; have HX := hid hx; have HY := hid hy; have HV := hid hv1; have HA := hid hall; have HAL := hid hal; have HLEN := hid hlen; have HL := hid hl; have HFL := hid hFl
 have HS := hid hs; have HT := hid ht
 clear hW0 hcc b0 b1 hW1 hc1 hx hy hv1 hall hal hF hlen hl hFl hu hlow hv hf hs ht h2
 go_enter Tryz.func117, Tryz.ntmps117
 go_wp2_with (first | rw [HW.out] | rw [HW1.out] | (at_builtin; refine walk_join rfl _ _ rfl W0.heap.size B1.out.size v vals rfl HV.out HL.out W0.heap.size _ _ rfl HX.out HY.out B1.out (fun w2 g cap hcells b2 => ?_)))
 have HCELLS := hid hcells; have B2 := hid b2
 clear hcells b2
 rw [HAL.out] at HCELLS
 clear HAL HX HY HV HW1 HW
 generalize vals.length = n at *
 have hl : n ≤ 1000 := HL.out
 have P2 := hid (below_up B0.out B2.out)
 have BB := hid B2.out
 go_loopw [0, 1, 8, 15] (fun a b er i wr => ∃ (k : Nat) (x y : ByteArray) (z : Int), k ≤ n + 2 ∧ i = .int .i64 (k : Int) ∧ a = .string x ∧ b = .string y ∧ er = .int .i64 z ∧ Hid (BuildInv F s t k x y z) ∧ Hid (Below w2.heap.size w2 wr)) (fun _ _ _ i _ => n + 2 - (RowKit.intOf i).toNat)
 case atStart => exact ⟨0, s, t, 0, by omega, rfl, rfl, rfl, rfl, .inl ⟨rfl, HS.out, HT.out, rfl⟩, Below.refl _ _⟩
 obtain ⟨k, x, y, z, hk, rfl, rfl, rfl, rfl, hinv, hbr⟩ := hrel
 by_cases hlt : k < n + 2
 · have hki : (k : Int) < (n : Int) + 2 := by omega
   obtain ⟨vk, f, h1, h2, h3⟩ := StepsIs.get HA.out k (by rw [HLEN.out]; exact hlt)
   have hcell : wr.cell? ⟨g, k, none⟩ = some vk := by
    have hc := HCELLS.out k vk h1
    rw [hbr.out.cell (p := ⟨g, k, none⟩) (World.block_lt_of_cell? w2 ⟨g, k, none⟩ hc)]
    exact hc
   obtain ⟨hsm, gg, caps, rfl, eg, run⟩ := h3
   have hix := fun W => at_step g (n + 2) cap k hlt W
   rcases hinv.out with ⟨rfl, hx, hy, hch⟩ | ⟨hz, hch⟩
   · have hr := run x y wr hx hy (below_up P2.out hbr.out)
     cases hfx : f x y with
     | some p =>
      obtain ⟨p1, p2⟩ := p
      obtain ⟨q1, q2⟩ := hsm x y p1 p2 hx hy hfx
      have hn : BuildInv F s t (k + 1) p1 p2 0 := .inl ⟨rfl, q1, q2, by rw [← hch, h2, chain_some hfx]⟩
      rw [hfx] at hr
      have HR := hid hr; have HN := hid hn
      clear hr hn hfx hch h2 h1 hsm run hinv q1 q2 hx hy
      go_wp2_with fail
      refine HR.out.mono ?_
      rintro e w3 ⟨rfl, b3⟩
      have HB3 := hid (below_up hbr.out b3)
      clear b3 hbr hcell
      go_wp2_with fail
      go_roundw
      case rel => exact ⟨k + 1, p1, p2, 0, by omega, by go_num, rfl, rfl, rfl, HN.out, HB3.out⟩
      case measure => simp [RowKit.intOf]; omega
     | none =>
      have hn : ∀ (a b : ByteArray) (c : Int), c ≠ 0 → BuildInv F s t (k + 1) a b c := fun _ _ _ hc => .inr ⟨hc, by rw [← hch, h2, chain_none hfx]⟩
      rw [hfx] at hr
      have HR := hid hr; have HN := hid hn
      clear hr hn hfx hch h2 h1 hsm run hinv hx hy
      go_wp2_with fail
      refine HR.out.mono ?_
      rintro e w3 ⟨nn, dd, c, hc, rfl, b3⟩
      have HB3 := hid (below_up hbr.out b3); have HCZ := hid hc
      clear b3 hbr hcell hc
      go_wp2_with fail
      go_roundw
      case rel => exact ⟨k + 1, nn, dd, c, by omega, by go_num, rfl, rfl, rfl, HN.out _ _ _ HCZ.out, HB3.out⟩
      case measure => simp [RowKit.intOf]; omega
   have hz2 : (z == 0) = false := by simpa using hz
   have hn : BuildInv F s t (k + 1) x y z := .inr ⟨hz, hch⟩
   have HN := hid hn
   clear hn hch h2 h1 hsm run hinv hz
   go_wp2_with fail
   go_roundw
   case rel => exact ⟨k + 1, x, y, z, by omega, by go_num, rfl, rfl, rfl, HN.out, hbr.out⟩
   case measure => simp [RowKit.intOf]; omega
 have hki : ¬ (k : Int) < (n : Int) + 2 := by omega
 obtain rfl : k = n + 2 := by omega
 have hR := HC.out wr (below_up BB.out hbr.out)
 obtain ⟨ca, cb, cc, cd⟩ := hR
 have P3 := hid (below_up BB.out hbr.out)
 rcases hinv.out with ⟨rfl, hx, hy, hch⟩ | ⟨hz, hch⟩
 · rw [List.drop_of_length_le (by rw [← HFL.out, HLEN.out]; omega)] at hch
   have hch2 : chain F s t = some (x, y) := hch.symm
   have HCH := hid hch2
   clear hinv hch hch2 hx hy hbr
   go_wp2_with fail
   exact bodyPost_ret (v := .tuple #[.agg #[.string x, .string y], .int .i64 0]) (by simp [results, Tryz.results117, go_sem, ca, cb]) rfl ⟨by rw [HCH.out]; rfl, rat_done B0.out (Nat.le_refl _) P3.out _ _⟩
 have HCH := hid hch
 have hz2 : (z != 0) = true := by simpa using hz
 clear hinv hch hz hbr
 go_wp2_with fail
 exact bodyPost_ret (v := .tuple #[.agg #[.string ⟨#[]⟩, .string ⟨#[]⟩], .int .i64 40]) (by simp [results, Tryz.results117, go_sem, ca, cb]) rfl ⟨by rw [HCH.out]; rfl, rat_done B0.out (Nat.le_refl _) P3.out _ _⟩
end Go.Proofs.YtcglcgphgahnpaaGreatDoor
