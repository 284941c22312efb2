/-
  Layer 8: the contract of the reference's Made. Layer 8: the contract of the reference's Example. Layer 8: the walk of ClockReal, over whatever keeps the contracts of sane, Reading and Agrees.
-/
import Derived.Test.YtamefmojocegkaaDoorProg
import Derived.Test.YtamefmojocegkaaDoorK04
import Derived.Lib.QuietBelow
import Derived.StillTail
import Derived.WalkKit
import Derived.WalkLawsBesides
import Derived.Outline
import Derived.Lib.Hide
import Derived.Below
import Derived.BigQuiet
import Derived.Deep.QuietTactic
import Derived.Deep.RegionHeld3
import Derived.Deep.DeepCutAuto
import Derived.Laws.Rows
import Derived.Laws.OwnMore
import Derived.OwnWalk
import Derived.Maps.Own
import Derived.Maps.OwnOps
set_option maxRecDepth 100000
set_option maxHeartbeats 16000000
namespace Go.Proofs.YtamefmojocegkaaDoor
open Go Go.Proofs Go.RowKit Go.Lib Go.Sort
def D4.fit (d : D4) : Prop := (-9223372036854775808 ≤ d.a ∧ d.a ≤ 9223372036854775807) ∧ (-9223372036854775808 ≤ d.b ∧ d.b ≤ 9223372036854775807) ∧ (-9223372036854775808 ≤ d.c ∧ d.c ≤ 9223372036854775807) ∧ (-9223372036854775808 ≤ d.d ∧ d.d ≤ 9223372036854775807)
def HpsPost (w : World) (l : List Hp) (e : Ending) (w' : World) : Prop := ∃ ad c, e = .returned (.slice ad l.length c) ∧ (ad = none → c = 0) ∧ RN KH w' w.heap.size ad l ∧ Below w.heap.size w w'
theorem RL.d4 {W : World} {ad : Option Addr} {l : List D4} (h : RL KD W ad l) (k : Nat) (hk : k < l.length) : ∃ b o, ad = some ⟨b, o, none⟩ ∧ b < W.heap.size ∧ ∀ W', Below W.heap.size W W' → W'.cell? ⟨b, o + 4 * k, none⟩ = some (.int .i64 l[k].a) ∧ W'.cell? ⟨b, o + 4 * k + 1, none⟩ = some (.int .i64 l[k].b) ∧ W'.cell? ⟨b, o + 4 * k + 2, none⟩ = some (.int .i64 l[k].c) ∧ W'.cell? ⟨b, o + 4 * k + 3, none⟩ = some (.int .i64 l[k].d) := by
 obtain ⟨b, o, h1, h2, h3⟩ := h.at_ k hk
 refine ⟨b, o, h1, h2, fun W' hb => ?_⟩
 have := h3 W' hb
 exact ⟨this 0 (by decide), this 1 (by decide), this 2 (by decide), this 3 (by decide)⟩
theorem at_d4 (g o n c k : Nat) (hk : k < n) (w : World) : (Instr.indexAt 26 (.slice (some ⟨g, o, none⟩) n c) (.int .i64 (k : Int))).run Tryd.prog w = .ok (.pointer (some ⟨g, o + 4 * k, none⟩)) w := KD.at_ g o n c k hk w
theorem apart_one (B : Nat) : Apart [some B, (Value.slice none 0 0).ownBlock, (Value.slice none 0 0).ownBlock, (Value.slice none 0 0).ownBlock, (Value.slice none 0 0).ownBlock, (Value.slice none 0 0).ownBlock, none] := by
 have h0 : ∀ (k x : Nat), ([some B, none, none, none, none, none, none] : List (Option Nat))[k]? = some (some x) → k = 0 := by
  intro k x hk
  match k with
  | 0 => rfl
  | 1 => cases hk
  | 2 => cases hk
  | 3 => cases hk
  | 4 => cases hk
  | 5 => cases hk
  | 6 => cases hk
  | k + 7 => cases hk
 intro i j x hi hj
 rw [h0 i x hi, h0 j x hj]
theorem Apart.none8 {l : List (Option Nat)} {o : Option Nat} (h : Apart (l ++ [o])) : Apart (l ++ [none]) := by
 have key : ∀ (i x : Nat), (l ++ [none])[i]? = some (some x) → (l ++ [o])[i]? = some (some x) := by
  intro i x hi
  by_cases hl : i < l.length
  · rw [List.getElem?_append_left hl] at hi ⊢; exact hi
  · rw [List.getElem?_append_right (by omega)] at hi
    rcases Nat.eq_zero_or_pos (i - l.length) with e | e
    · rw [e] at hi; cases hi
    · rw [List.getElem?_eq_none (by simp; omega)] at hi; cases hi
 intro i j x hi hj
 exact h i j x (key i x hi) (key j x hj)
theorem Apart.some8 {l : List (Option Nat)} {D : Nat} (h : Apart (l ++ [none])) (hD : ∀ (j y : Nat), (l ++ [none])[j]? = some (some y) → y < D) : Apart (l ++ [some D]) := by
 have key : ∀ (i x : Nat), (l ++ [some D])[i]? = some (some x) → (i = l.length ∧ x = D) ∨ (l ++ [none])[i]? = some (some x) := by
  intro i x hi
  by_cases hl : i < l.length
  · rw [List.getElem?_append_left hl] at hi ⊢; exact .inr hi
  · rw [List.getElem?_append_right (by omega)] at hi
    rcases Nat.eq_zero_or_pos (i - l.length) with e | e
    · rw [e] at hi
      injection hi with hi
      injection hi with hi
      exact .inl ⟨by omega, hi.symm⟩
    · rw [List.getElem?_eq_none (by simp; omega)] at hi; cases hi
 intro i j x hi hj
 rcases key i x hi with ⟨e1, e2⟩ | e1 <;> rcases key j x hj with ⟨e3, e4⟩ | e3
 · omega
 · have := hD j x e3; omega
 · have := hD i x e1; omega
 · exact h i j x e1 e3
theorem MkP.frame {W : World} {base B : Nat} {F G : Fv} {s : Mk} {vo va vp vq vh : Value} (h : MkP W base B F s vo va vp vq vh) (hF : F.x = none) {D : Nat} {ob : Obj} (hG : G = { F with x := some D, ob := ob }) (h1 : base ≤ D) (h2 : D < W.heap.size) (h3 : W.heap[D]? = some ob)
 (hD : ∀ (j y : Nat), [some B, vo.ownBlock, va.ownBlock, vp.ownBlock, vq.ownBlock, vh.ownBlock, F.x][j]? = some (some y) → y < D) : MkP W base B G s vo va vp vq vh := by
 subst hG
 have ha := h.ap
 rw [hF] at ha hD
 exact ⟨h.cells, h.hb, h.ro, h.ra, h.rp, h.rq, h.rh, Apart.some8 (l := [some B, vo.ownBlock, va.ownBlock, vp.ownBlock, vq.ownBlock, vh.ownBlock]) ha hD, fun y hy => by injection hy with hy; subst hy; exact ⟨h1, h2, h3⟩⟩
theorem MkP.unframe {W : World} {base B : Nat} {F G : Fv} {s : Mk} {vo va vp vq vh : Value} (h : MkP W base B G s vo va vp vq vh) (hF : F.x = none) {D : Nat} {ob : Obj} (hG : G = { F with x := some D, ob := ob }) : MkP W base B F s vo va vp vq vh := by
 subst hG
 have ha := Apart.none8 (l := [some B, vo.ownBlock, va.ownBlock, vp.ownBlock, vq.ownBlock, vh.ownBlock]) h.ap
 refine ⟨h.cells, h.hb, h.ro, h.ra, h.rp, h.rq, h.rh, ?_, fun y hy => by rw [hF] at hy; cases hy⟩
 rw [hF]
 exact ha
theorem MkP.dd {W : World} {base B D : Nat} {G : Fv} {s : Mk} {vo va vp vq vh : Value} {vs : List Value} {t : TypeId} (h : MkP W base B G s vo va vp vq vh) (hx : G.x = some D) (ho : G.ob = .cells vs.toArray t) : CellsAt W D vs := cellsAt_of (by rw [(h.hx D hx).2.2, ho])
theorem MkP.cut_ags {W : World} {base B g n c : Nat} {F : Fv} {s : Mk} {vo vp vq vh : Value} (h : MkP W base B F s vo (.slice (some ⟨g, 0, none⟩) n c) vp vq vh) (k : Nat) (hk : k ≤ s.ags.length) (l : List Int) (hl : s.ags.take k = l) : MkP (W.setCell ⟨B, 8, none⟩ (.slice (some ⟨g, 0, none⟩) k c)) base B F { s with ags := l } vo (.slice (some ⟨g, 0, none⟩) k c) vp vq vh := by
 subst hl
 exact ⟨h.cells.put 8 _, h.hb, h.ro.far (h.ap.ne 0 1 B rfl (by decide) rfl), (h.ra.cut k hk).far (h.ap.ne 0 2 B rfl (by decide) rfl), h.rp.far (h.ap.ne 0 3 B rfl (by decide) rfl), h.rq.far (h.ap.ne 0 4 B rfl (by decide) rfl), h.rh.far (h.ap.ne 0 5 B rfl (by decide) rfl), h.ap, h.hx.far (h.ap.ne 0 6 B rfl (by decide) rfl)⟩
theorem beq_dec8 (x y : Int) : (x == y) = decide (x = y) := by rw [Bool.eq_iff_iff]; simp
theorem pickB8 {c n : Int} (h0 : -9223372036854775808 ≤ c) (h1 : c ≤ 9223372036854775807) (n1 : 1 ≤ n) (n2 : n ≤ 9223372036854775807) (W : World) : Calls Tryd.prog 38 #[.int .i64 c, .int .i64 n] W fun e w' => e = .returned (.int .i64 (pick8 c n)) ∧ Below W.heap.size W w' := (pickR8_any c n h0 h1 n1 n2 W).mono fun _ _ h => ⟨h.1, by rw [← h.2]; exact Below.refl _ _⟩
theorem pickS8 {c n : Int} (h0 : -9223372036854775808 ≤ c) (h1 : c ≤ 9223372036854775807) (n1 : 1 ≤ n) (n2 : n ≤ 9223372036854775807) (W : World) : Calls Tryd.prog 38 #[.int .i64 c, .int .i64 n] W fun e w' => e = .returned (.int .i64 (pick8 c n)) ∧ w' = W := (pickR8_any c n h0 h1 n1 n2 W).mono fun _ _ h => ⟨h.1, h.2.symm⟩
theorem below_up9 {w w1 wr : World} (h1 : Below w.heap.size w w1) (h2 : Below (w.heap.size + 1) w1 wr) : Below w.heap.size w wr := h1.trans (h2.mono (Nat.le_succ _))
theorem madeR_any (F : Fv) (hFx : F.x = none) (id at_ pe : Int) (ad : Option Addr) (c : Nat) (l : List D4) (hd1 : 1 ≤ F.n1) (hd2 : F.n1 ≤ 6) (hs1 : 1 ≤ F.n2) (hs2 : F.n2 ≤ 1000) (l0 : 0 ≤ F.lat) (l1 : F.lat ≤ 1000000)
 (i0 : 0 ≤ id) (i1 : id ≤ 999) (a0 : 0 ≤ at_) (a1 : at_ ≤ 10000000) (hl : l.length ≤ maxLen) (hdi : ∀ d ∈ l, d.fit) (w : World) (hI : RL KD w ad l) :
 Calls Tryd.prog 37 #[.agg #[.slice F.a1 F.n1 F.c1, .int .i64 F.lat, .int .i64 F.lia, .slice F.a2 F.n2 F.c2, .slice F.a3 F.n3 F.c3], .int .i64 id, .int .i64 at_, .int .i64 pe, .slice ad l.length c] w (HpsPost w (madeN F.lat F.n1 F.n2 id at_ pe l)) := by
 have HDI := Lib.hid hdi
 have HI := Lib.hid hI
 have HL := Lib.hid hl
 have HF := Lib.hid (And.intro (And.intro hd1 hd2) (And.intro (And.intro hs1 hs2) (And.intro l0 l1)))
 have HID := Lib.hid (And.intro i0 i1)
 have HP1 := Lib.hid (fun W => (pickR8_any id 1000 (by omega) (by omega) (by decide) (by decide) W).mono fun e w2 h => And.intro h.1 h.2.symm)
 have HPN := Lib.hid (fun W => (pickR8_any id (F.n1 : Nat) (by omega) (by omega) (by omega) (by omega) W).mono fun e w2 h => And.intro h.1 h.2.symm)
 have hBS := bd_start F.n2 id at_ (pick8 id (F.n1 : Nat)) id pe a0 a1
 have hWS := wf_start F.n2 id at_ (pick8 id (F.n1 : Nat)) id pe
 have HRUN := Lib.hid (show runM F.lat F.n1 F.n2 id at_ pe l = loopM F.lat F.n1 F.n2 pe (begM F.n2 (startM id at_) (-1) (pick8 id (F.n1 : Nat)) id pe) l 0 from rfl)
 have HBW := Lib.hid (And.intro hBS hWS)
 have HST := Lib.hid (show (startM id at_).small from ⟨⟨pick8_lo (by decide), by have := pick8_hi (c := id) (n := 1000) (by decide); show pick8 id 1000 ≤ 999; omega⟩, ⟨a0, by show at_ ≤ 1000000000000; omega⟩, Nat.zero_le _, ⟨Int.le_refl _, by show (0 : Int) ≤ 1000; decide⟩, ⟨Int.le_refl _, by show (0 : Int) ≤ 1000; decide⟩, ⟨Int.le_refl _, by show (0 : Int) ≤ 1000; decide⟩, ⟨Int.le_refl _, by show (0 : Int) ≤ 1000; decide⟩⟩)
 have HFW := Lib.hid (show (startM id at_).few from ⟨Nat.zero_le _, Nat.zero_le _, Nat.zero_le _, Nat.zero_le _⟩)
 obtain ⟨w1, V1, Z1, K1, B1⟩ := lay8 w [.slice F.a1 F.n1 F.c1, .int .i64 F.lat, .int .i64 F.lia, .slice F.a2 F.n2 F.c2, .slice F.a3 F.n3 F.c3] 24
 have HK1 := Lib.hid K1
 have HB1 := Lib.hid B1
 have HZ1 := Lib.hid Z1
 clear hdi hI i0 i1 a0 a1 hBS hWS K1 B1 l0 l1 Z1 hd1 hd2 hs1 hs2 hl
 go_enter Tryd.func37, Tryd.ntmps37
 go_upto_region 1 with fail
 clear V1
 refine wp_region_noPanic ?_
 refine wp_region_Kx (C := Grew w1) [6] 6 #[false, false, false, false, false, false, false] (by kernel_rfl) (by kernel_rfl) (by kernel_rfl) (grew0 _) ?_
 intro wx hwx
 obtain ⟨w2, V2, Z2, K2, B2⟩ := lay8 wx ((startM id at_).cells F (.slice none 0 0) (.slice none 0 0) (.slice none 0 0) (.slice none 0 0) (.slice none 0 0)) 104
 have V2 := (show wx.alloc (.cells #[.slice F.a1 F.n1 F.c1, .int .i64 F.lat, .int .i64 F.lia, .slice F.a2 F.n2 F.c2, .slice F.a3 F.n3 F.c3, .int .i64 (pick8 id 1000), .int .i64 at_, .slice none 0 0, .slice none 0 0, .slice none 0 0, .slice none 0 0, .slice none 0 0, .int .i64 0, .int .i64 0, .int .i64 0, .int .i64 0, .bool false, .bool false, .bool false] 104) = w2 from V2)
 have g2 : Grew w1 w2 := by rw [← V2]; exact hwx.alloc _
 refine wpAnyK_ex (i := 0) rfl (by kernel_rfl) (listed' := #[true, false, false, false, false, false, false]) rfl (fun _ _ _ _ _ h => h) hwx ?_
 apply Exists.intro
 refine ⟨⟨by kernel_rfl, fun wy hw => ?_⟩, ?_⟩
 · (have bw := hw.below; have f0 := (HK1.out.below bw 0 (by simp)).1; have f1 := (HK1.out.below bw 1 (by simp)).1; have f2 := (HK1.out.below bw 2 (by simp)).1; have f3 := (HK1.out.below bw 3 (by simp)).1; have f4 := (HK1.out.below bw 4 (by simp)).1; go_simp; try (first | (with_reducible rfl) | (with_reducible exact ⟨rfl, rfl⟩)))
 try simp only [Act.put, List.getElem_toArray, List.getElem_cons_zero, List.setIfInBounds_toArray, List.set_cons_succ, List.set_cons_zero]
 refine wpAnyK_ex (i := 1) rfl (by kernel_rfl) (listed' := #[true, true, false, false, false, false, false]) rfl (fun _ _ _ _ _ h => h) hwx ?_
 apply Exists.intro
 refine ⟨⟨by kernel_rfl, fun wy hw => ?_⟩, ?_⟩
 · (have bw := hw.below; have f0 := (HK1.out.below bw 0 (by simp)).1; have f1 := (HK1.out.below bw 1 (by simp)).1; have f2 := (HK1.out.below bw 2 (by simp)).1; have f3 := (HK1.out.below bw 3 (by simp)).1; have f4 := (HK1.out.below bw 4 (by simp)).1; go_simp; try (first | (with_reducible rfl) | (with_reducible exact ⟨rfl, rfl⟩)))
 try simp only [Act.put, List.getElem_toArray, List.getElem_cons_succ, List.getElem_cons_zero, List.setIfInBounds_toArray, List.set_cons_succ, List.set_cons_zero]
 refine wpAnyK_callx (i := 2) rfl (by kernel_rfl) (listed' := #[true, true, true, false, false, false, false]) rfl (fun _ _ _ _ _ h => h) hwx ?_
 apply Exists.intro
 apply Exists.intro
 apply Exists.intro
 refine ⟨⟨by kernel_rfl, fun wy hw => ?_, fun wy hw => ?_⟩, ?_⟩
 · (have bw := hw.below; have f0 := (HK1.out.below bw 0 (by simp)).1; have f1 := (HK1.out.below bw 1 (by simp)).1; have f2 := (HK1.out.below bw 2 (by simp)).1; have f3 := (HK1.out.below bw 3 (by simp)).1; have f4 := (HK1.out.below bw 4 (by simp)).1; go_simp; try (first | (with_reducible rfl) | (with_reducible exact ⟨rfl, rfl⟩)))
 · (exact HP1.out _)
 try simp only [Act.put, List.getElem_toArray, List.getElem_cons_succ, List.getElem_cons_zero, List.setIfInBounds_toArray, List.set_cons_succ, List.set_cons_zero]
 refine wpAnyK_ex (i := 3) rfl (by kernel_rfl) (listed' := #[true, true, true, true, false, false, false]) rfl (fun _ _ _ _ _ h => h) hwx ?_
 apply Exists.intro
 refine ⟨⟨by kernel_rfl, fun wy hw => ?_⟩, ?_⟩
 · (have bw := hw.below; have f0 := (HK1.out.below bw 0 (by simp)).1; have f1 := (HK1.out.below bw 1 (by simp)).1; have f2 := (HK1.out.below bw 2 (by simp)).1; have f3 := (HK1.out.below bw 3 (by simp)).1; have f4 := (HK1.out.below bw 4 (by simp)).1; go_simp; try (first | (with_reducible rfl) | (with_reducible exact ⟨rfl, rfl⟩)))
 try simp only [Act.put, List.getElem_toArray, List.getElem_cons_succ, List.getElem_cons_zero, List.setIfInBounds_toArray, List.set_cons_succ, List.set_cons_zero]
 refine wpAnyK_ex (i := 4) rfl (by kernel_rfl) (listed' := #[true, true, true, true, true, false, false]) rfl (fun _ _ _ _ _ h => h) hwx ?_
 apply Exists.intro
 refine ⟨⟨by kernel_rfl, fun wy hw => ?_⟩, ?_⟩
 · (have bw := hw.below; have f0 := (HK1.out.below bw 0 (by simp)).1; have f1 := (HK1.out.below bw 1 (by simp)).1; have f2 := (HK1.out.below bw 2 (by simp)).1; have f3 := (HK1.out.below bw 3 (by simp)).1; have f4 := (HK1.out.below bw 4 (by simp)).1; go_simp; try (first | (with_reducible rfl) | (with_reducible exact ⟨rfl, rfl⟩)))
 try simp only [Act.put, List.getElem_toArray, List.getElem_cons_succ, List.getElem_cons_zero, List.setIfInBounds_toArray, List.set_cons_succ, List.set_cons_zero]
 refine wpAnyK_fork1 5 (by kernel_rfl) ?_
 refine wpOpK_step rfl (by kernel_rfl) (listed' := #[true, true, true, true, true, true, false]) rfl (by kernel_rfl) (fun K hK => ?_)
 go_simp
 refine hK _ _ (g2) ?_
 clear hK K
 try simp only [Act.put, List.getElem_toArray, List.getElem_cons_succ, List.getElem_cons_zero, List.setIfInBounds_toArray, List.set_cons_succ, List.set_cons_zero]
 refine wpAnyK_end (by kernel_rfl) ?_
 try simp only [pickOps, List.filterMap_cons, List.filterMap_nil, List.getElem?_toArray, List.getElem?_cons_succ, List.getElem?_cons_zero]
 have HBX := Lib.hid g2.below
 have hbs := hwx.below.size
 clear V2 g2 hwx B2
 go_wp2_with fail
 refine NoPanic.normal ?_
 generalize wx.heap.size = B at *
 have HM2 := Lib.hid (show MkP w2 (w.heap.size + 1) B F (startM id at_) (.slice none 0 0) (.slice none 0 0) (.slice none 0 0) (.slice none 0 0) (.slice none 0 0) from ⟨K2, by have := HZ1.out; omega, Own.nil _ _ _, Own.nil _ _ _, Own.nil _ _ _, Own.nil _ _ _, Own.nil _ _ _, by rw [hFx]; exact apart_one B, fun y hy => by rw [hFx] at hy; cases hy⟩)
 have r0 := (show w2.cell? ⟨w.heap.size, 0, none⟩ = some (.slice F.a1 F.n1 F.c1) from (HK1.out.below HBX.out 0 (by simp)).1)
 clear K2 Z2 hbs
 go_wp2_with (first | (go_at_call 38; refine (HPN.out _).mono ?_; rintro e z ⟨rfl, rfl⟩))
 refine (beginR_any (w.heap.size + 1) B F (startM id at_) (-1) (pick8 id (F.n1 : Nat)) id pe HF.out.2.1.1 HF.out.2.1.2 (by have := HID.out; omega) (by have := HID.out; omega) HST.out HFW.out _ ⟨_, _, _, _, _, HM2.out⟩).mono ?_
 rintro e w3 ⟨rfl, hz3, hb3⟩
 have HM3 := Lib.hid hz3
 have HB3 := Lib.hid (show Below (w.heap.size + 1) w1 w3 from by rw [← HZ1.out]; exact HBX.out.trans (by rw [HZ1.out]; exact hb3))
 clear hz3 hb3 HBX HM2 r0 HST HFW HP1
 go_wp2_with fail
 go_loopw [12] (fun i wr => ∃ (k : Nat) (s : Mk), i = .int .i64 k ∧ Hid (k ≤ l.length ∧ k ≤ 60 ∧ loopM F.lat F.n1 F.n2 pe s (l.drop k) k = runM F.lat F.n1 F.n2 id at_ pe l ∧ Wf s ∧ s.bd (1 + 8 * k)) ∧ Hid (MkAt wr (w.heap.size + 1) B F s) ∧ Hid (Below (w.heap.size + 1) w1 wr)) (fun i _ => l.length - (RowKit.intOf i).toNat)
 case atStart => exact ⟨0, _, rfl, Lib.hid ⟨Nat.zero_le _, by decide, HRUN.out.symm, HBW.out.2, HBW.out.1⟩, HM3, HB3⟩
 case round =>
  clear HM3 HB3 HBW HRUN
  obtain ⟨k, s, rfl, HX, HM, HB⟩ := hrel
  have h61 : k ≤ 60 := HX.out.2.1
  obtain ⟨vo, va, vp, vq, vh, hm⟩ := HM.out
  have hfo := hm.ro.form
  obtain ⟨ado, cpo, evo, _⟩ := hfo
  subst evo
  have HM := Lib.hid hm
  have c7 : wr.cell? ⟨B, 7, none⟩ = some (.slice ado s.out.length cpo) := (hm.cells 7 (show 7 < 19 by decide)).1
  clear hm
  obtain ⟨cond, hcond⟩ : ∃ cond : Bool, cond = decide (k < l.length ∧ k < 60 ∧ s.out.length < 9) := ⟨_, rfl⟩
  have hl48 : (l.length : Int) ≤ 9223372036854775807 := by have := HL.out; unfold maxLen at this; omega
  go_upto_region 4 with fail
  go_cut [47] from 32 to 46 (fun s47 wx => s47 = .bool cond ∧ wx = wr)
  case first =>
   by_cases q1 : k < l.length
   · have q1' : decide ((k : Int) < (l.length : Int)) = true := decide_eq_true (by omega)
     by_cases q2 : k < 60
     · have q2' : decide ((k : Int) < 60) = true := decide_eq_true (by omega)
       by_cases q3 : s.out.length < 9
       · have q3' : decide ((s.out.length : Int) < 9) = true := decide_eq_true (by omega)
         have qc : cond = true := by rw [hcond]; exact decide_eq_true ⟨q1, q2, q3⟩
         clear hcond
         go_wp2_with fail
         go_meet
         exact ⟨by rw [qc], rfl⟩
       · have q3' : decide ((s.out.length : Int) < 9) = false := decide_eq_false (by omega)
         have qc : cond = false := by rw [hcond]; exact decide_eq_false (fun h => q3 h.2.2)
         clear hcond
         go_wp2_with fail
         go_meet
         exact ⟨by rw [qc], rfl⟩
     · have q2' : decide ((k : Int) < 60) = false := decide_eq_false (by omega)
       have qc : cond = false := by rw [hcond]; exact decide_eq_false (fun h => q2 h.2.1)
       clear hcond
       go_wp2_with fail
       go_meet
       exact ⟨by rw [qc], rfl⟩
   · have q1' : decide ((k : Int) < (l.length : Int)) = false := decide_eq_false (by omega)
     have qc : cond = false := by rw [hcond]; exact decide_eq_false (fun h => q1 h.1)
     clear hcond
     go_wp2_with fail
     go_meet
     exact ⟨by rw [qc], rfl⟩
  case rest =>
   obtain ⟨rfl, rfl⟩ := hcut
   clear c7
   cases cond with
   | true =>
    as_aux_lemma =>
     obtain ⟨hlt, h60, h9⟩ := of_decide_eq_true hcond.symm
     clear hcond
     have HLT := Lib.hid (show k + 1 ≤ l.length from hlt)
     have H60 := Lib.hid (show k + 1 ≤ 60 from h60)
     obtain ⟨db, do_, rfl, hdb, hdc⟩ := HI.out.d4 k hlt
     have idd := fun W => at_d4 db do_ l.length c k hlt W
     have HLOOP := Lib.hid (show loopM F.lat F.n1 F.n2 pe (stepM F.lat F.n1 F.n2 pe s (l[k]'hlt)) (l.drop (k + 1)) (k + 1) = runM F.lat F.n1 F.n2 id at_ pe l from by
      have e := HX.out.2.2.1
      rw [List.drop_eq_getElem_cons hlt] at e
      unfold loopM at e
      rw [if_pos ⟨h60, h9⟩] at e
      exact e)
     have HDF := Lib.hid (HDI.out _ (List.getElem_mem hlt))
     obtain ⟨e0, e1, e2, e3⟩ := hdc wc (below_up9 HB1.out HB.out)
     have HWN := Lib.hid (HX.out.2.2.2.1.step F.lat F.n1 F.n2 pe (l[k]'hlt))
     have HBN := Lib.hid (show (stepM F.lat F.n1 F.n2 pe s (l[k]'hlt)).bd (1 + 8 * (k + 1)) from (HX.out.2.2.2.2.step F.lat HF.out.2.2.1 HF.out.2.2.2 F.n1 F.n2 pe (l[k]'hlt)))
     generalize (l[k]'hlt) = dv at *
     have HW := Lib.hid HX.out.2.2.2.1
     have HBD := Lib.hid HX.out.2.2.2.2
     clear HX hdc hdb hlt h60 h9
     obtain ⟨wd, VD, ZD, KD_, BD⟩ := lay8 wc [.int .i64 dv.a, .int .i64 dv.b, .int .i64 dv.c, .int .i64 dv.d] 106
     have VD := (show wc.alloc (.cells #[.int .i64 dv.a, .int .i64 dv.b, .int .i64 dv.c, .int .i64 dv.d] 106) = wd from VD)
     go_upto_region 7 with fail
     obtain ⟨G, hG⟩ : ∃ G : Fv, G = { F with x := some wc.heap.size, ob := .cells #[.int .i64 dv.a, .int .i64 dv.b, .int .i64 dv.c, .int .i64 dv.d] 106 } := ⟨_, rfl⟩
     have hzc : w.heap.size + 1 ≤ wc.heap.size := by have := HB.out.size; have := HZ1.out; omega
     obtain ⟨ada, cpa, eva, _⟩ := HM.out.ra.form
     subst eva
     have HMd := Lib.hid (show MkP wd (w.heap.size + 1) B G s _ _ _ _ _ from (HM.out.up BD (Nat.le_refl _)).frame hFx hG hzc (by omega) (by rw [← VD]; exact heap_alloc_new _ _) (fun j y hj => (HM.out.all_lt j y hj).2))
     have HBd := Lib.hid (show Below (w.heap.size + 1) w1 wd from HB.out.trans (BD.mono hzc))
     have HGX := Lib.hid (show G.x = some wc.heap.size ∧ G.ob = .cells [Value.int .i64 dv.a, .int .i64 dv.b, .int .i64 dv.c, .int .i64 dv.d].toArray 106 ∧ G.lat = F.lat ∧ G.n2 = F.n2 from by rw [hG]; exact ⟨rfl, rfl, rfl, rfl⟩)
     have HG := Lib.hid hG
     have HBB := Lib.hid (show w.heap.size + 1 ≤ B from HM.out.hb)
     clear hG VD KD_ BD ZD HM HB e0 e1 e2 e3 hzc idd
     generalize wc.heap.size = D at *
     have HDd := Lib.hid (HMd.out.dd HGX.out.1 HGX.out.2.1)
     have hlen := HW.out.l1
     have hlen4 := HW.out.l4
     obtain ⟨fa, fb, fc, fd⟩ := HDF.out
     have p0 := pick8_lo (c := dv.b) (n := (s.ags.length : Nat)) (by omega)
     have hp := spanM_lt HW.out dv
     obtain ⟨p, hpe⟩ : ∃ p, p = spanM s dv := ⟨_, rfl⟩
     have hpb : pick8 dv.b (s.ags.length : Nat) = (p : Int) := by rw [hpe]; unfold spanM; omega
     rw [← hpe] at hp
     have HPB := Lib.hid (fun W => pickB8 fb.1 fb.2 (n := (s.ags.length : Nat)) (by omega) (by omega) W)
     rw [hpb] at HPB
     have HPT := Lib.hid (fun W => pickS8 fd.1 fd.2 (n := 4000000) (by decide) (by decide) W)
     have HPT0 := pick8_lo (c := dv.d) (n := 4000000) (by decide)
     have HPT1 := pick8_hi (c := dv.d) (n := 4000000) (by decide)
     have HPA := Lib.hid (fun W => pickR8_any dv.a 6 fa.1 fa.2 (by decide) (by decide) W)
     have HSTEP := Lib.hid (show stepM F.lat F.n1 F.n2 pe s dv = doM F.lat F.n1 F.n2 pe (laterM s dv) p dv by rw [hpe]; rfl)
     generalize stepM F.lat F.n1 F.n2 pe s dv = sn at *
     have hnow := HBD.out.2.1
     have hwn : IntKind.i64.wrap (s.now + pick8 dv.d 4000000) = s.now + pick8 dv.d 4000000 := wrapq8 (by omega)
     clear p0 hpb hpe fa fb fc fd hlen hlen4
     go_upto_region 7 with fail
     go_cut [14] from 54 to 61 (fun s14 wx => s14 = .int .i64 ((p : Nat) : Int) ∧ Hid (Below wd.heap.size wd wx))
     case first =>
      skip
      have y1 := fun d os => (show (grow (redrawn wd d) os).cell? ⟨D, 1, none⟩ = some (.int .i64 dv.b) from (HDd.out.below (below_regrown wd d os) 1 (by simp)).1)
      have c8 := fun d os => (show (grow (redrawn wd d) os).cell? ⟨B, 8, none⟩ = some (.slice ada s.ags.length cpa) from (HMd.out.cells.below (below_regrown wd d os) 8 (show 8 < 19 by decide)).1)
      refine wp_region_quiet_below (by kernel_rfl) (by kernel_rfl) ?_
      repeat (first | go_big_quiet_step ((first | fail | (go_at_call 38; exact Calls.regrown_of (HPB.out _)))) | quiet_step ((first | fail | (go_at_call 38; exact Calls.regrown_of (HPB.out _)))))
      refine wpQuiet_nil ?_
      intro _ hw'
      obtain ⟨⟨dq, osq⟩, hw''⟩ := hw'
      subst hw''
      go_wp2_with fail
      go_meet
      exact ⟨rfl, Lib.hid (below_regrown _ _ _)⟩
     case rest =>
      obtain ⟨rfl, HBx⟩ := hcut
      generalize wc = w4 at *
      have HM4 := Lib.hid (HMd.out.up HBx.out (Nat.le_refl _))
      have HD4 := Lib.hid (HM4.out.dd HGX.out.1 HGX.out.2.1)
      have HB4 := Lib.hid (show Below (w.heap.size + 1) w1 w4 from HBd.out.trans (HBx.out.mono (by have := HBB.out; have := HMd.out.lt; omega)))
      clear HMd HDd HBd HBx
      go_upto_region 8 with fail
      refine wp_region_noPanic ?_
      refine wp_region_Kp (C := Grew w4) [0] [9, 10, 11] 8 #[true, false, false, false, false, false, false, false, false, false, false, false] (by kernel_rfl) (by kernel_rfl) (by kernel_rfl) (by kernel_rfl) (grew0 _) (fun _ _ _ _ _ h => h) ?_
      simp only [pickOps, List.filterMap_cons, List.filterMap_nil, List.getElem?_toArray, List.getElem?_cons_succ, List.getElem?_cons_zero]
      refine wpPure_step (fun K hK => ?_)
      apply Exists.intro
      refine ⟨⟨by rfl, fun wx => ?_⟩, hK _ ?_⟩
      · (go_simp; try (first | (with_reducible rfl) | (with_reducible exact ⟨rfl, rfl⟩)))
      clear hK K
      try simp only [Act.put, List.setIfInBounds_toArray, List.set_cons_succ, List.set_cons_zero]
      refine wpPure_nil ?_
      intro wx hwx
      have HBX := Lib.hid hwx.below
      have e1 : wx.cell? ⟨B, 6, none⟩ = some (.int .i64 s.now) := (HM4.out.cells.below HBX.out 6 (show 6 < 19 by decide)).1
      have e2 := (HM4.out.cells.below HBX.out 6 (show 6 < 19 by decide)).2
      refine wpAnyK_ex (i := 1) rfl (by kernel_rfl) (listed' := #[true, true, false, false, false, false, false, false, false, false, false, false]) rfl (fun _ _ _ _ _ h => h) hwx ?_
      apply Exists.intro
      refine ⟨⟨by kernel_rfl, fun wy hw => ?_⟩, ?_⟩
      · (have bw := hw.below; go_simp; try (first | (with_reducible rfl) | (with_reducible exact ⟨rfl, rfl⟩)))
      try simp only [Act.put, List.getElem_toArray, List.getElem_cons_succ, List.getElem_cons_zero, List.setIfInBounds_toArray, List.set_cons_succ, List.set_cons_zero]
      refine wpAnyK_ex (i := 2) rfl (by kernel_rfl) (listed' := #[true, true, true, false, false, false, false, false, false, false, false, false]) rfl (fun _ _ _ _ _ h => h) hwx ?_
      apply Exists.intro
      refine ⟨⟨by kernel_rfl, fun wy hw => ?_⟩, ?_⟩
      · (have bw := hw.below; go_simp; try (first | (with_reducible rfl) | (with_reducible exact ⟨rfl, rfl⟩)))
      try simp only [Act.put, List.getElem_toArray, List.getElem_cons_succ, List.getElem_cons_zero, List.setIfInBounds_toArray, List.set_cons_succ, List.set_cons_zero]
      refine wpAnyK_ex (i := 3) rfl (by kernel_rfl) (listed' := #[true, true, true, true, false, false, false, false, false, false, false, false]) rfl (fun _ _ _ _ _ h => h) hwx ?_
      apply Exists.intro
      refine ⟨⟨by kernel_rfl, fun wy hw => ?_⟩, ?_⟩
      · (have bw := hw.below; go_simp; try (first | (with_reducible rfl) | (with_reducible exact ⟨rfl, rfl⟩)))
      try simp only [Act.put, List.getElem_toArray, List.getElem_cons_succ, List.getElem_cons_zero, List.setIfInBounds_toArray, List.set_cons_succ, List.set_cons_zero]
      refine wpAnyK_ex (i := 4) rfl (by kernel_rfl) (listed' := #[true, true, true, true, true, false, false, false, false, false, false, false]) rfl (fun _ _ _ _ _ h => h) hwx ?_
      apply Exists.intro
      refine ⟨⟨by kernel_rfl, fun wy hw => ?_⟩, ?_⟩
      · (have bw := hw.below; have fx := (show wy.cell? ⟨B, 6, none⟩ = some (.int .i64 s.now) from (HM4.out.cells.below bw 6 (show 6 < 19 by decide)).1); go_simp; try (first | (with_reducible rfl) | (with_reducible exact ⟨rfl, rfl⟩)))
      try simp only [Act.put, List.getElem_toArray, List.getElem_cons_succ, List.getElem_cons_zero, List.setIfInBounds_toArray, List.set_cons_succ, List.set_cons_zero]
      refine wpAnyK_ex (i := 5) rfl (by kernel_rfl) (listed' := #[true, true, true, true, true, true, false, false, false, false, false, false]) rfl (fun _ _ _ _ _ h => h) hwx ?_
      apply Exists.intro
      refine ⟨⟨by kernel_rfl, fun wy hw => ?_⟩, ?_⟩
      · (have bw := hw.below; go_simp; try (first | (with_reducible rfl) | (with_reducible exact ⟨rfl, rfl⟩)))
      try simp only [Act.put, List.getElem_toArray, List.getElem_cons_succ, List.getElem_cons_zero, List.setIfInBounds_toArray, List.set_cons_succ, List.set_cons_zero]
      refine wpAnyK_ex (i := 6) rfl (by kernel_rfl) (listed' := #[true, true, true, true, true, true, true, false, false, false, false, false]) rfl (fun _ _ _ _ _ h => h) hwx ?_
      apply Exists.intro
      refine ⟨⟨by kernel_rfl, fun wy hw => ?_⟩, ?_⟩
      · (have bw := hw.below; have fx := (show wy.cell? ⟨D, 3, none⟩ = some (.int .i64 dv.d) from (HD4.out.below bw 3 (by simp)).1); go_simp; try (first | (with_reducible rfl) | (with_reducible exact ⟨rfl, rfl⟩)))
      try simp only [Act.put, List.getElem_toArray, List.getElem_cons_succ, List.getElem_cons_zero, List.setIfInBounds_toArray, List.set_cons_succ, List.set_cons_zero]
      refine wpAnyK_callx (i := 7) rfl (by kernel_rfl) (listed' := #[true, true, true, true, true, true, true, true, false, false, false, false]) rfl (fun _ _ _ _ _ h => h) hwx ?_
      apply Exists.intro
      apply Exists.intro
      apply Exists.intro
      refine ⟨⟨by kernel_rfl, fun wy hw => ?_, fun wy hw => ?_⟩, ?_⟩
      · (have bw := hw.below; go_simp; try (first | (with_reducible rfl) | (with_reducible exact ⟨rfl, rfl⟩)))
      · (exact HPT.out _)
      try simp only [Act.put, List.getElem_toArray, List.getElem_cons_succ, List.getElem_cons_zero, List.setIfInBounds_toArray, List.set_cons_succ, List.set_cons_zero]
      refine wpAnyK_ex (i := 8) rfl (by kernel_rfl) (listed' := #[true, true, true, true, true, true, true, true, true, false, false, false]) rfl (fun _ _ _ _ _ h => h) hwx ?_
      apply Exists.intro
      refine ⟨⟨by kernel_rfl, fun wy hw => ?_⟩, ?_⟩
      · (have bw := hw.below; go_simp; try (first | (with_reducible rfl) | (with_reducible exact ⟨rfl, rfl⟩)))
      try simp only [Act.put, List.getElem_toArray, List.getElem_cons_succ, List.getElem_cons_zero, List.setIfInBounds_toArray, List.set_cons_succ, List.set_cons_zero]
      refine wpAnyK_end (by kernel_rfl) ?_
      try simp only [pickOps, List.filterMap_cons, List.filterMap_nil, List.getElem?_toArray, List.getElem?_cons_succ, List.getElem?_cons_zero]
      clear hwx
      go_wp2_with fail
      refine NoPanic.normal ?_
      go_upto_region 9 with fail
      obtain ⟨w5, hw5⟩ : ∃ w5, w5 = wx.setCell ⟨B, 6, none⟩ (.int .i64 (s.now + pick8 dv.d 4000000)) := ⟨_, rfl⟩
      rw [← hw5]
      have HM5 := Lib.hid (show MkP w5 (w.heap.size + 1) B G (laterM s dv) _ _ _ _ _ by rw [hw5]; exact (HM4.out.up HBX.out (Nat.le_refl _)).put 6 _ (laterM s dv) rfl rfl rfl rfl rfl rfl)
      have HB5 := Lib.hid (show Below (w.heap.size + 1) w1 w5 by rw [hw5]; exact (HB4.out.trans (HBX.out.mono (by have := HBB.out; have := HM4.out.lt; omega))).setCell HBB.out _)
      have HBD5 := Lib.hid (show (laterM s dv).bd (1 + 8 * k + 1) from HBD.out.later _ HPT0 (by omega))
      have HW5 := Lib.hid (show Wf (laterM s dv) from HW.out.later _)
      have hp5 : p < (laterM s dv).ags.length := hp
      have hls : s.ags.length = (laterM s dv).ags.length := rfl
      rw [hls] at HM5
      clear hls hw5 e1 e2 HBX HM4 HB4 HD4 hwn HPT0 HPT1 HPT HW HBD hp hnow
      generalize laterM s dv = s1 at *
      obtain ⟨gq, cq, evq, _, hgq, hiq, hcq⟩ := HM5.out.rq.bool8 p (by rw [HW5.out.o]; exact hp5)
      subst evq
      have c10 : w5.cell? ⟨B, 10, none⟩ = some (.slice (some ⟨gq, 0, none⟩) s1.opn.length cq) := (HM5.out.cells 10 (show 10 < 19 by decide)).1
      obtain ⟨o1, _⟩ := hcq w5 _ (Below.refl _ w5) hgq
      have HOP := Lib.hid (show (if s1.opn.getD p false = false then sn = s1 else True) by
       split
       · rename_i h0
         rw [HSTEP.out]; unfold doM; rw [if_pos h0]
       · trivial)
      have HOA := Lib.hid HW5.out.o
      as_aux_lemma =>
       cases hop : s1.opn.getD p false with
       | false =>
        rw [hop] at o1
        have HR := Lib.hid (show sn = s1 from by have := HOP.out; rw [if_pos hop] at this; exact this)
        clear hop
        go_wp2_with fail
        go_roundw
        case rel => exact ⟨k + 1, sn, by go_num, Lib.hid ⟨HLT.out, H60.out, HLOOP.out, HWN.out, HBN.out⟩, Lib.hid (by rw [HR.out]; exact ⟨_, _, _, _, _, HM5.out.unframe hFx HG.out⟩), HB5⟩
        case measure => have h9 := HLT.out; simp [RowKit.intOf]; omega
       | true =>
        rw [hop] at o1
        clear HOP
        have HD5 := Lib.hid (HM5.out.dd HGX.out.1 HGX.out.2.1)
        have y0 := (show w5.cell? ⟨D, 0, none⟩ = some (.int .i64 dv.a) from (HD5.out 0 (by simp)).1)
        have HOT := Lib.hid (show ¬ (s1.opn.getD p false = false) from by rw [hop]; decide)
        have z0 := pick8_lo (c := dv.a) (n := 6) (by decide)
        have z1 := pick8_hi (c := dv.a) (n := 6) (by decide)
        have HSQ := Lib.hid (show sn = if pick8 dv.a 6 = 0 ∨ pick8 dv.a 6 = 1 ∨ pick8 dv.a 6 = 2 then (if 4 ≤ s1.ags.length then s1 else callM F.lat F.n1 F.n2 pe s1 p dv) else if pick8 dv.a 6 = 3 then acqM s1 p dv else if pick8 dv.a 6 = 4 then relM s1 p else if 0 < p then endM F.lat s1 p (decide (dv.c.tmod 2 = 0)) else s1 by rw [HSTEP.out]; unfold doM; rw [if_neg HOT.out])
        clear hop HSTEP HOT
        generalize pick8 dv.a 6 = q at *
        go_upto_region 11 with (go_at_call 38; refine (HPA.out _).mono ?_; rintro e z ⟨rfl, rfl⟩)
        clear hiq c10 o1 y0 HPA
        as_aux_lemma =>
         have h6 : q = 0 ∨ q = 1 ∨ q = 2 ∨ q = 3 ∨ q = 4 ∨ q = 5 := by omega
         clear z0 z1
         go_cut [84] from 85 to 85 (fun s84 wx => s84 = .bool (decide (q = 0)) ∧ wx = w5)
         case first => rcases h6 with rfl | rfl | rfl | rfl | rfl | rfl <;> (go_wp2_with fail; go_meet; exact ⟨rfl, rfl⟩)
         case rest =>
          obtain ⟨rfl, rfl⟩ := hcut
          generalize wc = w5 at *
          go_upto_if 84 with fail
          go_cut [84] from 86 to 87 (fun s84 wx => s84 = .bool (decide (q ≤ 2)) ∧ wx = w5)
          case first => rcases h6 with rfl | rfl | rfl | rfl | rfl | rfl <;> (go_wp2_with fail; go_meet; exact ⟨rfl, rfl⟩)
          case rest =>
           obtain ⟨rfl, rfl⟩ := hcut
           generalize wc = w5 at *
           by_cases h2 : q ≤ 2
           · skip
             as_aux_lemma =>
              have h2' : decide (q ≤ 2) = true := decide_eq_true h2
              have h012 : q = 0 ∨ q = 1 ∨ q = 2 := by omega
              have c8 : w5.cell? ⟨B, 8, none⟩ = some (.slice ada s1.ags.length cpa) := (HM5.out.cells 8 (show 8 < 19 by decide)).1
              by_cases h4 : 4 ≤ s1.ags.length
              · skip
                have h4' : decide ((s1.ags.length : Int) ≥ 4) = true := decide_eq_true (by omega)
                have HR := Lib.hid (show sn = s1 from by rw [HSQ.out, if_pos h012, if_pos h4])
                clear h012 h6 h4
                go_wp2_with fail
                go_roundw
                case rel => exact ⟨k + 1, sn, by go_num, Lib.hid ⟨HLT.out, H60.out, HLOOP.out, HWN.out, HBN.out⟩, Lib.hid (by rw [HR.out]; exact ⟨_, _, _, _, _, HM5.out.unframe hFx HG.out⟩), HB5⟩
                case measure => have h9 := HLT.out; simp [RowKit.intOf]; omega
              · skip
                have h4' : decide ((s1.ags.length : Int) ≥ 4) = false := decide_eq_false (by omega)
                have HR0 := Lib.hid (show sn = callM F.lat F.n1 F.n2 pe s1 p dv from by rw [HSQ.out, if_pos h012, if_neg h4])
                have HL4 := Lib.hid h4
                have hc12 : w5.cell? ⟨B, 12, none⟩ = some (.int .i64 s1.msg) := (HM5.out.cells 12 (show 12 < 19 by decide)).1
                clear h012 h6 HSQ
                go_wp2_with fail
                clear hc12 c8
                as_aux_lemma =>
                 refine (addR_any (w.heap.size + 1) B G s1 p (⟨0, 0, 0, 3, 0, 0, s1.msg, 0, 0, 0, 0, 0⟩ : Ev) hp5 (HBD5.out.small (by omega)) _ ⟨_, _, _, _, _, HM5.out⟩).mono ?_
                 rintro e z2 ⟨rfl, hz, hb⟩
                 have HBD6 := Lib.hid (HBD5.out.add p (⟨0, 0, 0, 3, 0, 0, s1.msg, 0, 0, 0, 0, 0⟩ : Ev))
                 have HB6 := Lib.hid (HB5.out.trans hb)
                 have HS2 := Lib.hid (show addM s1 p (⟨0, 0, 0, 3, 0, 0, s1.msg, 0, 0, 0, 0, 0⟩ : Ev) = addM s1 p (evS 3 s1.msg 0) ∧ (addM s1 p (⟨0, 0, 0, 3, 0, 0, s1.msg, 0, 0, 0, 0, 0⟩ : Ev)).ags = s1.ags ∧ (addM s1 p (⟨0, 0, 0, 3, 0, 0, s1.msg, 0, 0, 0, 0, 0⟩ : Ev)).msg = s1.msg ∧ (addM s1 p (⟨0, 0, 0, 3, 0, 0, s1.msg, 0, 0, 0, 0, 0⟩ : Ev)).pars = s1.pars ∧ (addM s1 p (⟨0, 0, 0, 3, 0, 0, s1.msg, 0, 0, 0, 0, 0⟩ : Ev)).opn = s1.opn ∧ (addM s1 p (⟨0, 0, 0, 3, 0, 0, s1.msg, 0, 0, 0, 0, 0⟩ : Ev)).hol = s1.hol from ⟨rfl, rfl, rfl, rfl, rfl, rfl⟩)
                 generalize addM s1 p (⟨0, 0, 0, 3, 0, 0, s1.msg, 0, 0, 0, 0, 0⟩ : Ev) = s2 at *
                 obtain ⟨vo2, va2, vp2, vq2, vh2, hm2⟩ := hz
                 obtain ⟨ad2, cp2, ev2, hcp2⟩ := hm2.ra.form
                 subst ev2
                 have HM6 := Lib.hid hm2
                 have HD6 := Lib.hid (hm2.dd HGX.out.1 HGX.out.2.1)
                 obtain ⟨_, ⟨fcc, fc1⟩, ⟨fd0, fd1⟩⟩ := And.intro HDF.out.1 (And.intro HDF.out.2.2.1 HDF.out.2.2.2)
                 have t5 := tdiv8 fd0 fd1 5 (by decide)
                 have hw5 : IntKind.i64.wrap (dv.d.tdiv 5) = dv.d.tdiv 5 := wrapq8 (by omega)
                 have HP5 := Lib.hid (fun W => pickS8 (c := dv.d.tdiv 5) (n := 700000) (by omega) (by omega) (by decide) (by decide) W)
                 have p50 := pick8_lo (c := dv.d.tdiv 5) (n := 700000) (by decide)
                 have p51 := pick8_hi (c := dv.d.tdiv 5) (n := 700000) (by decide)
                 have hn2 := HBD6.out.2.1
                 have hlat := HF.out.2.2
                 have hwa : IntKind.i64.wrap (s2.now + F.lat) = s2.now + F.lat := wrapq8 (by omega)
                 have hwb : IntKind.i64.wrap (s2.now + F.lat + pick8 (dv.d.tdiv 5) 700000) = s2.now + F.lat + pick8 (dv.d.tdiv 5) 700000 := wrapq8 (by omega)
                 have HBD7 := Lib.hid (show Mk.bd { s2 with now := s2.now + (F.lat + pick8 (dv.d.tdiv 5) 700000) } _ from HBD6.out.later (F.lat + pick8 (dv.d.tdiv 5) 700000) (by omega) (by omega))
                 have HLW := Lib.hid (show Below w1.heap.size w1 z2 from by rw [HZ1.out]; exact HB6.out)
                 clear hm2 hb HM5 HB5 HBD5 t5 hn2 hlat p50 p51 fd0 fd1
                 go_upto_region 16 with fail
                 as_aux_lemma =>
                  refine wp_region_noPanic ?_
                  refine wp_region_Kp (C := Grew z2) [0] [13, 14, 15] 12 #[true, false, false, false, false, false, false, false, false, false, false, false, false, false, false, false] (by kernel_rfl) (by kernel_rfl) (by kernel_rfl) (by kernel_rfl) (grew0 _) (fun _ _ _ _ _ h => h) ?_
                  simp only [pickOps, List.filterMap_cons, List.filterMap_nil, List.getElem?_toArray, List.getElem?_cons_succ, List.getElem?_cons_zero]
                  refine wpPure_step (fun K hK => ?_)
                  apply Exists.intro
                  refine ⟨⟨by rfl, fun wx => ?_⟩, hK _ ?_⟩
                  · (go_simp; try (first | (with_reducible rfl) | (with_reducible exact ⟨rfl, rfl⟩)))
                  clear hK K
                  try simp only [Act.put, List.setIfInBounds_toArray, List.set_cons_succ, List.set_cons_zero]
                  refine wpPure_nil ?_
                  intro wx hwx
                  have HBX := Lib.hid hwx.below
                  have e1 : wx.cell? ⟨B, 6, none⟩ = some (.int .i64 s2.now) := (HM6.out.cells.below HBX.out 6 (show 6 < 19 by decide)).1
                  have e2 := (HM6.out.cells.below HBX.out 6 (show 6 < 19 by decide)).2
                  refine wpAnyK_ex (i := 1) rfl (by kernel_rfl) (listed' := #[true, true, false, false, false, false, false, false, false, false, false, false, false, false, false, false]) rfl (fun _ _ _ _ _ h => h) hwx ?_
                  apply Exists.intro
                  refine ⟨⟨by kernel_rfl, fun wy hw => ?_⟩, ?_⟩
                  · (have bw := hw.below; go_simp; try (first | (with_reducible rfl) | (with_reducible exact ⟨rfl, rfl⟩)))
                  try simp only [Act.put, List.getElem_toArray, List.getElem_cons_succ, List.getElem_cons_zero, List.setIfInBounds_toArray, List.set_cons_succ, List.set_cons_zero]
                  refine wpAnyK_ex (i := 2) rfl (by kernel_rfl) (listed' := #[true, true, true, false, false, false, false, false, false, false, false, false, false, false, false, false]) rfl (fun _ _ _ _ _ h => h) hwx ?_
                  apply Exists.intro
                  refine ⟨⟨by kernel_rfl, fun wy hw => ?_⟩, ?_⟩
                  · (have bw := hw.below; go_simp; try (first | (with_reducible rfl) | (with_reducible exact ⟨rfl, rfl⟩)))
                  try simp only [Act.put, List.getElem_toArray, List.getElem_cons_succ, List.getElem_cons_zero, List.setIfInBounds_toArray, List.set_cons_succ, List.set_cons_zero]
                  refine wpAnyK_ex (i := 3) rfl (by kernel_rfl) (listed' := #[true, true, true, true, false, false, false, false, false, false, false, false, false, false, false, false]) rfl (fun _ _ _ _ _ h => h) hwx ?_
                  apply Exists.intro
                  refine ⟨⟨by kernel_rfl, fun wy hw => ?_⟩, ?_⟩
                  · (have bw := hw.below; go_simp; try (first | (with_reducible rfl) | (with_reducible exact ⟨rfl, rfl⟩)))
                  try simp only [Act.put, List.getElem_toArray, List.getElem_cons_succ, List.getElem_cons_zero, List.setIfInBounds_toArray, List.set_cons_succ, List.set_cons_zero]
                  refine wpAnyK_ex (i := 4) rfl (by kernel_rfl) (listed' := #[true, true, true, true, true, false, false, false, false, false, false, false, false, false, false, false]) rfl (fun _ _ _ _ _ h => h) hwx ?_
                  apply Exists.intro
                  refine ⟨⟨by kernel_rfl, fun wy hw => ?_⟩, ?_⟩
                  · (have bw := hw.below; have fx := (show wy.cell? ⟨B, 6, none⟩ = some (.int .i64 s2.now) from (HM6.out.cells.below bw 6 (show 6 < 19 by decide)).1); go_simp; try (first | (with_reducible rfl) | (with_reducible exact ⟨rfl, rfl⟩)))
                  try simp only [Act.put, List.getElem_toArray, List.getElem_cons_succ, List.getElem_cons_zero, List.setIfInBounds_toArray, List.set_cons_succ, List.set_cons_zero]
                  refine wpAnyK_ex (i := 5) rfl (by kernel_rfl) (listed' := #[true, true, true, true, true, true, false, false, false, false, false, false, false, false, false, false]) rfl (fun _ _ _ _ _ h => h) hwx ?_
                  apply Exists.intro
                  refine ⟨⟨by kernel_rfl, fun wy hw => ?_⟩, ?_⟩
                  · (have bw := hw.below; go_simp; try (first | (with_reducible rfl) | (with_reducible exact ⟨rfl, rfl⟩)))
                  try simp only [Act.put, List.getElem_toArray, List.getElem_cons_succ, List.getElem_cons_zero, List.setIfInBounds_toArray, List.set_cons_succ, List.set_cons_zero]
                  refine wpAnyK_ex (i := 6) rfl (by kernel_rfl) (listed' := #[true, true, true, true, true, true, true, false, false, false, false, false, false, false, false, false]) rfl (fun _ _ _ _ _ h => h) hwx ?_
                  apply Exists.intro
                  refine ⟨⟨by kernel_rfl, fun wy hw => ?_⟩, ?_⟩
                  · (have bw := hw.below; have fx := (show wy.cell? ⟨w.heap.size, 1, none⟩ = some (.int .i64 F.lat) from ((HK1.out.below HLW.out).below bw 1 (by simp)).1); go_simp; try (first | (with_reducible rfl) | (with_reducible exact ⟨rfl, rfl⟩)))
                  try simp only [Act.put, List.getElem_toArray, List.getElem_cons_succ, List.getElem_cons_zero, List.setIfInBounds_toArray, List.set_cons_succ, List.set_cons_zero]
                  refine wpAnyK_ex (i := 7) rfl (by kernel_rfl) (listed' := #[true, true, true, true, true, true, true, true, false, false, false, false, false, false, false, false]) rfl (fun _ _ _ _ _ h => h) hwx ?_
                  apply Exists.intro
                  refine ⟨⟨by kernel_rfl, fun wy hw => ?_⟩, ?_⟩
                  · (have bw := hw.below; go_simp; try (first | (with_reducible rfl) | (with_reducible exact ⟨rfl, rfl⟩)))
                  try simp only [Act.put, List.getElem_toArray, List.getElem_cons_succ, List.getElem_cons_zero, List.setIfInBounds_toArray, List.set_cons_succ, List.set_cons_zero]
                  refine wpAnyK_ex (i := 8) rfl (by kernel_rfl) (listed' := #[true, true, true, true, true, true, true, true, true, false, false, false, false, false, false, false]) rfl (fun _ _ _ _ _ h => h) hwx ?_
                  apply Exists.intro
                  refine ⟨⟨by kernel_rfl, fun wy hw => ?_⟩, ?_⟩
                  · (have bw := hw.below; go_simp; try (first | (with_reducible rfl) | (with_reducible exact ⟨rfl, rfl⟩)))
                  try simp only [Act.put, List.getElem_toArray, List.getElem_cons_succ, List.getElem_cons_zero, List.setIfInBounds_toArray, List.set_cons_succ, List.set_cons_zero]
                  refine wpAnyK_ex (i := 9) rfl (by kernel_rfl) (listed' := #[true, true, true, true, true, true, true, true, true, true, false, false, false, false, false, false]) rfl (fun _ _ _ _ _ h => h) hwx ?_
                  apply Exists.intro
                  refine ⟨⟨by kernel_rfl, fun wy hw => ?_⟩, ?_⟩
                  · (have bw := hw.below; have fx := (show wy.cell? ⟨D, 3, none⟩ = some (.int .i64 dv.d) from (HD6.out.below bw 3 (by simp)).1); go_simp; try (first | (with_reducible rfl) | (with_reducible exact ⟨rfl, rfl⟩)))
                  try simp only [Act.put, List.getElem_toArray, List.getElem_cons_succ, List.getElem_cons_zero, List.setIfInBounds_toArray, List.set_cons_succ, List.set_cons_zero]
                  refine wpAnyK_ex (i := 10) rfl (by kernel_rfl) (listed' := #[true, true, true, true, true, true, true, true, true, true, true, false, false, false, false, false]) rfl (fun _ _ _ _ _ h => h) hwx ?_
                  apply Exists.intro
                  refine ⟨⟨by kernel_rfl, fun wy hw => ?_⟩, ?_⟩
                  · (have bw := hw.below; go_simp; try (first | (with_reducible rfl) | (with_reducible exact ⟨rfl, rfl⟩)))
                  try simp only [Act.put, List.getElem_toArray, List.getElem_cons_succ, List.getElem_cons_zero, List.setIfInBounds_toArray, List.set_cons_succ, List.set_cons_zero]
                  refine wpAnyK_callx (i := 11) rfl (by kernel_rfl) (listed' := #[true, true, true, true, true, true, true, true, true, true, true, true, false, false, false, false]) rfl (fun _ _ _ _ _ h => h) hwx ?_
                  apply Exists.intro
                  apply Exists.intro
                  apply Exists.intro
                  refine ⟨⟨by kernel_rfl, fun wy hw => ?_, fun wy hw => ?_⟩, ?_⟩
                  · (have bw := hw.below; go_simp; try (first | (with_reducible rfl) | (with_reducible exact ⟨rfl, rfl⟩)))
                  · (exact HP5.out _)
                  try simp only [Act.put, List.getElem_toArray, List.getElem_cons_succ, List.getElem_cons_zero, List.setIfInBounds_toArray, List.set_cons_succ, List.set_cons_zero]
                  refine wpAnyK_ex (i := 12) rfl (by kernel_rfl) (listed' := #[true, true, true, true, true, true, true, true, true, true, true, true, true, false, false, false]) rfl (fun _ _ _ _ _ h => h) hwx ?_
                  apply Exists.intro
                  refine ⟨⟨by kernel_rfl, fun wy hw => ?_⟩, ?_⟩
                  · (have bw := hw.below; go_simp; try (first | (with_reducible rfl) | (with_reducible exact ⟨rfl, rfl⟩)))
                  try simp only [Act.put, List.getElem_toArray, List.getElem_cons_succ, List.getElem_cons_zero, List.setIfInBounds_toArray, List.set_cons_succ, List.set_cons_zero]
                  refine wpAnyK_end (by kernel_rfl) ?_
                  try simp only [pickOps, List.filterMap_cons, List.filterMap_nil, List.getElem?_toArray, List.getElem?_cons_succ, List.getElem?_cons_zero]
                  clear hwx
                  go_wp2_with fail
                  refine NoPanic.normal ?_
                  go_upto_region 17 with fail
                  obtain ⟨w7, hw7⟩ : ∃ w7, w7 = wx.setCell ⟨B, 6, none⟩ (.int .i64 (s2.now + F.lat + pick8 (dv.d.tdiv 5) 700000)) := ⟨_, rfl⟩
                  rw [← hw7]
                  obtain ⟨s3, hs3⟩ : ∃ s3 : Mk, s3 = { s2 with now := s2.now + F.lat + pick8 (dv.d.tdiv 5) 700000 } := ⟨_, rfl⟩
                  have HM7 := Lib.hid (show MkP w7 (w.heap.size + 1) B G s3 _ _ _ _ _ by rw [hw7, hs3]; exact (HM6.out.up HBX.out (Nat.le_refl _)).put 6 _ { s2 with now := s2.now + F.lat + pick8 (dv.d.tdiv 5) 700000 } rfl rfl rfl rfl rfl rfl)
                  have HB7 := Lib.hid (show Below (w.heap.size + 1) w1 w7 by rw [hw7]; exact (HB6.out.trans (HBX.out.mono (by have := HBB.out; have := HM6.out.lt; omega))).setCell HBB.out _)
                  have HBD8 := Lib.hid (show s3.bd (1 + 8 * k + 1 + 1 + 1) from by rw [hs3]; exact HBD7.out.of rfl (by dsimp only; omega) rfl rfl rfl rfl rfl)
                  have HS3 := Lib.hid (show s3.ags = s1.ags ∧ s3.msg = s1.msg ∧ s3.pars = s1.pars ∧ s3.opn = s1.opn ∧ s3.hol = s1.hol ∧ s3 = { addM s1 p (evS 3 s1.msg 0) with now := (addM s1 p (evS 3 s1.msg 0)).now + F.lat + pick8 (dv.d.tdiv 5) 700000 } from by rw [hs3, ← HS2.out.1]; exact ⟨HS2.out.2.1, HS2.out.2.2.1, HS2.out.2.2.2.1, HS2.out.2.2.2.2.1, HS2.out.2.2.2.2.2, rfl⟩)
                  have hl23 : s2.ags.length = s3.ags.length := by rw [hs3]
                  rw [hl23] at HM7
                  clear hw7 hs3 e1 e2 HBX HM6 HB6 HD6 HBD6 HBD7 HP5 hwa hwb hw5 HLW hl23 HS2
                  have HD7 := Lib.hid (HM7.out.dd HGX.out.1 HGX.out.2.1)
                  have HLW := Lib.hid (show Below w1.heap.size w1 w7 from by rw [HZ1.out]; exact HB7.out)
                  have hd12 := HF.out.1
                  have HPC := Lib.hid (fun W => pickS8 (c := dv.c) (n := (F.n1 : Nat)) fcc fc1 (by omega) (by omega) W)
                  have hle3 : s3.ags.length ≤ 4 := by rw [HS3.out.1]; exact HW5.out.l4
                  have HAG := Lib.hid (show ∀ x, x = pick8 dv.c (F.n1 : Nat) → callM F.lat F.n1 F.n2 pe s1 p dv = { begM F.n2 { addM { s3 with ags := s1.ags ++ [x] } s1.ags.length (evS 4 s1.msg 0) with ags := s1.ags } p x dv.c pe with msg := s1.msg + 1 } from fun x hx => by rw [hx, HS3.out.2.2.2.2.2]; rfl)
                  obtain ⟨ag, hag⟩ : ∃ ag, ag = pick8 dv.c (F.n1 : Nat) := ⟨_, rfl⟩
                  replace HAG := Lib.hid (HAG.out ag hag)
                  rw [← hag] at HPC
                  clear hag
                  clear hd12
                  as_aux_lemma =>
                   skip
                   refine wp_region_noPanic ?_
                   refine wp_region_Kp (C := Grew w7) [0] [12, 13, 14, 15] 11 #[true, false, false, false, false, false, false, false, false, false, false, false, false, false, false, false] (by kernel_rfl) (by kernel_rfl) (by kernel_rfl) (by kernel_rfl) (grew0 _) (fun _ _ _ _ _ h => h) ?_
                   simp only [pickOps, List.filterMap_cons, List.filterMap_nil, List.getElem?_toArray, List.getElem?_cons_succ, List.getElem?_cons_zero]
                   refine wpPure_step (fun K hK => ?_)
                   apply Exists.intro
                   refine ⟨⟨by rfl, fun wx => ?_⟩, hK _ ?_⟩
                   · (go_simp; try (first | (with_reducible rfl) | (with_reducible exact ⟨rfl, rfl⟩)))
                   clear hK K
                   try simp only [Act.put, List.setIfInBounds_toArray, List.set_cons_succ, List.set_cons_zero]
                   refine wpPure_nil ?_
                   intro wx hwx
                   obtain ⟨w8, V8, Z8, K8, B8⟩ := lay8 wx [.int .i64 ag] 3
                   have V8 := (show wx.alloc (.cells #[.int .i64 ag] 3) = w8 from V8)
                   have g8 : Grew w7 w8 := by rw [← V8]; exact hwx.alloc _
                   have H8 := Lib.hid g8.below
                   have K8 := Lib.hid K8
                   have hs := hwx.below.size
                   refine wpAnyK_ex (i := 1) rfl (by kernel_rfl) (listed' := #[true, true, false, false, false, false, false, false, false, false, false, false, false, false, false, false]) rfl (fun _ _ _ _ _ h => h) hwx ?_
                   apply Exists.intro
                   refine ⟨⟨by kernel_rfl, fun wy hw => ?_⟩, ?_⟩
                   · (have bw := hw.below; go_simp; try (first | (with_reducible rfl) | (with_reducible exact ⟨rfl, rfl⟩)))
                   try simp only [Act.put, List.getElem_toArray, List.getElem_cons_succ, List.getElem_cons_zero, List.setIfInBounds_toArray, List.set_cons_succ, List.set_cons_zero]
                   refine wpAnyK_ex (i := 2) rfl (by kernel_rfl) (listed' := #[true, true, true, false, false, false, false, false, false, false, false, false, false, false, false, false]) rfl (fun _ _ _ _ _ h => h) hwx ?_
                   apply Exists.intro
                   refine ⟨⟨by kernel_rfl, fun wy hw => ?_⟩, ?_⟩
                   · (have bw := hw.below; go_simp; try (first | (with_reducible rfl) | (with_reducible exact ⟨rfl, rfl⟩)))
                   try simp only [Act.put, List.getElem_toArray, List.getElem_cons_succ, List.getElem_cons_zero, List.setIfInBounds_toArray, List.set_cons_succ, List.set_cons_zero]
                   refine wpAnyK_ex (i := 3) rfl (by kernel_rfl) (listed' := #[true, true, true, true, false, false, false, false, false, false, false, false, false, false, false, false]) rfl (fun _ _ _ _ _ h => h) hwx ?_
                   apply Exists.intro
                   refine ⟨⟨by kernel_rfl, fun wy hw => ?_⟩, ?_⟩
                   · (have bw := hw.below; go_simp; try (first | (with_reducible rfl) | (with_reducible exact ⟨rfl, rfl⟩)))
                   try simp only [Act.put, List.getElem_toArray, List.getElem_cons_succ, List.getElem_cons_zero, List.setIfInBounds_toArray, List.set_cons_succ, List.set_cons_zero]
                   refine wpAnyK_ex (i := 4) rfl (by kernel_rfl) (listed' := #[true, true, true, true, true, false, false, false, false, false, false, false, false, false, false, false]) rfl (fun _ _ _ _ _ h => h) hwx ?_
                   apply Exists.intro
                   refine ⟨⟨by kernel_rfl, fun wy hw => ?_⟩, ?_⟩
                   · (have bw := hw.below; have fx := (show wy.cell? ⟨B, 8, none⟩ = some (.slice ad2 s3.ags.length cp2) from (HM7.out.cells.below bw 8 (show 8 < 19 by decide)).1); go_simp; try (first | (with_reducible rfl) | (with_reducible exact ⟨rfl, rfl⟩)))
                   try simp only [Act.put, List.getElem_toArray, List.getElem_cons_succ, List.getElem_cons_zero, List.setIfInBounds_toArray, List.set_cons_succ, List.set_cons_zero]
                   refine wpAnyK_ex (i := 5) rfl (by kernel_rfl) (listed' := #[true, true, true, true, true, true, false, false, false, false, false, false, false, false, false, false]) rfl (fun _ _ _ _ _ h => h) hwx ?_
                   apply Exists.intro
                   refine ⟨⟨by kernel_rfl, fun wy hw => ?_⟩, ?_⟩
                   · (have bw := hw.below; go_simp; try (first | (with_reducible rfl) | (with_reducible exact ⟨rfl, rfl⟩)))
                   try simp only [Act.put, List.getElem_toArray, List.getElem_cons_succ, List.getElem_cons_zero, List.setIfInBounds_toArray, List.set_cons_succ, List.set_cons_zero]
                   refine wpAnyK_ex (i := 6) rfl (by kernel_rfl) (listed' := #[true, true, true, true, true, true, true, false, false, false, false, false, false, false, false, false]) rfl (fun _ _ _ _ _ h => h) hwx ?_
                   apply Exists.intro
                   refine ⟨⟨by kernel_rfl, fun wy hw => ?_⟩, ?_⟩
                   · (have bw := hw.below; have fx := (show wy.cell? ⟨D, 2, none⟩ = some (.int .i64 dv.c) from (HD7.out.below bw 2 (by simp)).1); go_simp; try (first | (with_reducible rfl) | (with_reducible exact ⟨rfl, rfl⟩)))
                   try simp only [Act.put, List.getElem_toArray, List.getElem_cons_succ, List.getElem_cons_zero, List.setIfInBounds_toArray, List.set_cons_succ, List.set_cons_zero]
                   refine wpAnyK_ex (i := 7) rfl (by kernel_rfl) (listed' := #[true, true, true, true, true, true, true, true, false, false, false, false, false, false, false, false]) rfl (fun _ _ _ _ _ h => h) hwx ?_
                   apply Exists.intro
                   refine ⟨⟨by kernel_rfl, fun wy hw => ?_⟩, ?_⟩
                   · (have bw := hw.below; go_simp; try (first | (with_reducible rfl) | (with_reducible exact ⟨rfl, rfl⟩)))
                   try simp only [Act.put, List.getElem_toArray, List.getElem_cons_succ, List.getElem_cons_zero, List.setIfInBounds_toArray, List.set_cons_succ, List.set_cons_zero]
                   refine wpAnyK_ex (i := 8) rfl (by kernel_rfl) (listed' := #[true, true, true, true, true, true, true, true, true, false, false, false, false, false, false, false]) rfl (fun _ _ _ _ _ h => h) hwx ?_
                   apply Exists.intro
                   refine ⟨⟨by kernel_rfl, fun wy hw => ?_⟩, ?_⟩
                   · (have bw := hw.below; have fx := (show wy.cell? ⟨w.heap.size, 0, none⟩ = some (.slice F.a1 F.n1 F.c1) from ((HK1.out.below HLW.out).below bw 0 (by simp)).1); go_simp; try (first | (with_reducible rfl) | (with_reducible exact ⟨rfl, rfl⟩)))
                   try simp only [Act.put, List.getElem_toArray, List.getElem_cons_succ, List.getElem_cons_zero, List.setIfInBounds_toArray, List.set_cons_succ, List.set_cons_zero]
                   refine wpAnyK_ex (i := 9) rfl (by kernel_rfl) (listed' := #[true, true, true, true, true, true, true, true, true, true, false, false, false, false, false, false]) rfl (fun _ _ _ _ _ h => h) hwx ?_
                   apply Exists.intro
                   refine ⟨⟨by kernel_rfl, fun wy hw => ?_⟩, ?_⟩
                   · (have bw := hw.below; go_simp; try (first | (with_reducible rfl) | (with_reducible exact ⟨rfl, rfl⟩)))
                   try simp only [Act.put, List.getElem_toArray, List.getElem_cons_succ, List.getElem_cons_zero, List.setIfInBounds_toArray, List.set_cons_succ, List.set_cons_zero]
                   refine wpAnyK_callx (i := 10) rfl (by kernel_rfl) (listed' := #[true, true, true, true, true, true, true, true, true, true, true, false, false, false, false, false]) rfl (fun _ _ _ _ _ h => h) hwx ?_
                   apply Exists.intro
                   apply Exists.intro
                   apply Exists.intro
                   refine ⟨⟨by kernel_rfl, fun wy hw => ?_, fun wy hw => ?_⟩, ?_⟩
                   · (have bw := hw.below; go_simp; try (first | (with_reducible rfl) | (with_reducible exact ⟨rfl, rfl⟩)))
                   · (exact HPC.out _)
                   try simp only [Act.put, List.getElem_toArray, List.getElem_cons_succ, List.getElem_cons_zero, List.setIfInBounds_toArray, List.set_cons_succ, List.set_cons_zero]
                   refine wpAnyK_fork1 11 (by kernel_rfl) ?_
                   refine wpOpK_step rfl (by kernel_rfl) (listed' := #[true, true, true, true, true, true, true, true, true, true, true, true, false, false, false, false]) rfl (by kernel_rfl) (fun K hK => ?_)
                   go_simp
                   refine hK _ _ (g8) ?_
                   clear hK K
                   try simp only [Act.put, List.getElem_toArray, List.getElem_cons_succ, List.getElem_cons_zero, List.setIfInBounds_toArray, List.set_cons_succ, List.set_cons_zero]
                   refine wpAnyK_end (by kernel_rfl) ?_
                   try simp only [pickOps, List.filterMap_cons, List.filterMap_nil, List.getElem?_toArray, List.getElem?_cons_succ, List.getElem?_cons_zero]
                   as_aux_lemma =>
                    clear V8
                    have HM8 := Lib.hid (HM7.out.up H8.out (Nat.le_refl _))
                    refine walk_push8 KI (w0 := w8) rfl _ _ rfl (w.heap.size + 1) (.slice ad2 s3.ags.length cp2) s3.ags ag rfl HM8.out.ra (Below.refl _ _) (by have := HBB.out; have := HM8.out.lt; omega) wx.heap.size 1 rfl K8.out (by omega) ?_
                    intro v9 w9 ho9 hb9 hg9 hk9
                    obtain ⟨ad9, cp9, e9, _⟩ := ho9.form
                    have hl9 : (s3.ags ++ [ag]).length = s3.ags.length + 1 := by simp
                    rw [hl9] at e9
                    subst e9
                    obtain ⟨s4, hs4⟩ : ∃ s4 : Mk, s4 = { s3 with ags := s3.ags ++ [ag] } := ⟨_, rfl⟩
                    have HM9 := Lib.hid (show MkP _ (w.heap.size + 1) B G s4 _ _ _ _ _ from by rw [hs4]; exact HM8.out.push_ags ho9 hg9 hk9)
                    have kc := cells_grown8 HM8.out.cells hg9 (fun e => HM8.out.ap.ne 0 2 B rfl (by decide) rfl e.symm)
                    have k1 : w9.cell? ⟨B, 8, none⟩ = some (.slice ad2 s3.ags.length cp2) := (kc 8 (show 8 < 19 by decide)).1
                    have k2 := (kc 8 (show 8 < 19 by decide)).2
                    have HB9 := Lib.hid (show Below (w.heap.size + 1) w1 (w9.setCell ⟨B, 8, none⟩ (.slice ad9 (s3.ags.length + 1) cp9)) from (((HB7.out.trans (H8.out.mono (by have := HBB.out; have := HM7.out.lt; omega))).trans hb9).setCell HBB.out _))
                    clear ho9 hb9 hg9 hk9 kc hwx g8
                    go_wp2_with fail
                    refine NoPanic.normal ?_
                    go_upto_region 18 with fail
                    obtain ⟨wA, hwA⟩ : ∃ wA, wA = w9.setCell ⟨B, 8, none⟩ (.slice ad9 (s3.ags.length + 1) cp9) := ⟨_, rfl⟩
                    rw [← hwA] at HM9 HB9 ⊢
                    have HS4 := Lib.hid (show s4.ags.length = s1.ags.length + 1 ∧ s4.ags = s1.ags ++ [ag] ∧ s4.msg = s1.msg ∧ s4.pars = s1.pars ∧ s4.opn = s1.opn ∧ s4.hol = s1.hol ∧ s4 = { s3 with ags := s1.ags ++ [ag] } from by rw [hs4]; have h := HS3.out; exact ⟨by rw [hl9, h.1], by rw [← h.1], h.2.1, h.2.2.1, h.2.2.2.1, h.2.2.2.2.1, by rw [← h.1]⟩)
                    have HBD9 := Lib.hid (show s4.bd (1 + 8 * k + 1 + 1 + 1) from by rw [hs4]; exact HBD8.out.of rfl rfl rfl rfl rfl rfl rfl)
                    have hl43 : s3.ags.length + 1 = s4.ags.length := by rw [hs4]; simp
                    rw [hl43] at HM9 ⊢
                    clear hwA hs4 k1 k2 HM8 HM7 HB7 HD7 HBD8 H8 K8 hl9 HLW hs Z8 B8 hl43
                    have hle4 : s4.ags.length ≤ 5 := by rw [HS4.out.1]; have := HW5.out.l4; omega
                    have hws : IntKind.i64.wrap ((s4.ags.length : Int) - 1) = (s1.ags.length : Int) := by rw [HS4.out.1]; rw [wrapq8 (by omega)]; omega
                    as_aux_lemma =>
                     refine wp_region_noPanic ?_
                     refine wp_region_Kx (C := Grew wA) [12] 12 #[false, false, false, false, false, false, false, false, false, false, false, false, false] (by kernel_rfl) (by kernel_rfl) (by kernel_rfl) (grew0 _) ?_
                     intro wx hwx
                     refine wpAnyK_ex (i := 0) rfl (by kernel_rfl) (listed' := #[true, false, false, false, false, false, false, false, false, false, false, false, false]) rfl (fun _ _ _ _ _ h => h) hwx ?_
                     apply Exists.intro
                     refine ⟨⟨by kernel_rfl, fun wy hw => ?_⟩, ?_⟩
                     · (have bw := hw.below; go_simp; try (first | (with_reducible rfl) | (with_reducible exact ⟨rfl, rfl⟩)))
                     try simp only [Act.put, List.getElem_toArray, List.getElem_cons_zero, List.setIfInBounds_toArray, List.set_cons_succ, List.set_cons_zero]
                     refine wpAnyK_ex (i := 1) rfl (by kernel_rfl) (listed' := #[true, true, false, false, false, false, false, false, false, false, false, false, false]) rfl (fun _ _ _ _ _ h => h) hwx ?_
                     apply Exists.intro
                     refine ⟨⟨by kernel_rfl, fun wy hw => ?_⟩, ?_⟩
                     · (have bw := hw.below; go_simp; try (first | (with_reducible rfl) | (with_reducible exact ⟨rfl, rfl⟩)))
                     try simp only [Act.put, List.getElem_toArray, List.getElem_cons_succ, List.getElem_cons_zero, List.setIfInBounds_toArray, List.set_cons_succ, List.set_cons_zero]
                     refine wpAnyK_ex (i := 2) rfl (by kernel_rfl) (listed' := #[true, true, true, false, false, false, false, false, false, false, false, false, false]) rfl (fun _ _ _ _ _ h => h) hwx ?_
                     apply Exists.intro
                     refine ⟨⟨by kernel_rfl, fun wy hw => ?_⟩, ?_⟩
                     · (have bw := hw.below; go_simp; try (first | (with_reducible rfl) | (with_reducible exact ⟨rfl, rfl⟩)))
                     try simp only [Act.put, List.getElem_toArray, List.getElem_cons_succ, List.getElem_cons_zero, List.setIfInBounds_toArray, List.set_cons_succ, List.set_cons_zero]
                     refine wpAnyK_ex (i := 3) rfl (by kernel_rfl) (listed' := #[true, true, true, true, false, false, false, false, false, false, false, false, false]) rfl (fun _ _ _ _ _ h => h) hwx ?_
                     apply Exists.intro
                     refine ⟨⟨by kernel_rfl, fun wy hw => ?_⟩, ?_⟩
                     · (have bw := hw.below; go_simp; try (first | (with_reducible rfl) | (with_reducible exact ⟨rfl, rfl⟩)))
                     try simp only [Act.put, List.getElem_toArray, List.getElem_cons_succ, List.getElem_cons_zero, List.setIfInBounds_toArray, List.set_cons_succ, List.set_cons_zero]
                     refine wpAnyK_ex (i := 4) rfl (by kernel_rfl) (listed' := #[true, true, true, true, true, false, false, false, false, false, false, false, false]) rfl (fun _ _ _ _ _ h => h) hwx ?_
                     apply Exists.intro
                     refine ⟨⟨by kernel_rfl, fun wy hw => ?_⟩, ?_⟩
                     · (have bw := hw.below; have fx := (show wy.cell? ⟨B, 8, none⟩ = some (.slice ad9 s4.ags.length cp9) from (HM9.out.cells.below bw 8 (show 8 < 19 by decide)).1); go_simp; try (first | (with_reducible rfl) | (with_reducible exact ⟨rfl, rfl⟩)))
                     try simp only [Act.put, List.getElem_toArray, List.getElem_cons_succ, List.getElem_cons_zero, List.setIfInBounds_toArray, List.set_cons_succ, List.set_cons_zero]
                     refine wpAnyK_ex (i := 5) rfl (by kernel_rfl) (listed' := #[true, true, true, true, true, true, false, false, false, false, false, false, false]) rfl (fun _ _ _ _ _ h => h) hwx ?_
                     apply Exists.intro
                     refine ⟨⟨by kernel_rfl, fun wy hw => ?_⟩, ?_⟩
                     · (have bw := hw.below; go_simp; try (first | (with_reducible rfl) | (with_reducible exact ⟨rfl, rfl⟩)))
                     try simp only [Act.put, List.getElem_toArray, List.getElem_cons_succ, List.getElem_cons_zero, List.setIfInBounds_toArray, List.set_cons_succ, List.set_cons_zero]
                     refine wpAnyK_ex (i := 6) rfl (by kernel_rfl) (listed' := #[true, true, true, true, true, true, true, false, false, false, false, false, false]) rfl (fun _ _ _ _ _ h => h) hwx ?_
                     apply Exists.intro
                     refine ⟨⟨by kernel_rfl, fun wy hw => ?_⟩, ?_⟩
                     · (have bw := hw.below; go_simp; try (first | (with_reducible rfl) | (with_reducible exact ⟨rfl, rfl⟩)))
                     try simp only [Act.put, List.getElem_toArray, List.getElem_cons_succ, List.getElem_cons_zero, List.setIfInBounds_toArray, List.set_cons_succ, List.set_cons_zero]
                     refine wpAnyK_ex (i := 7) rfl (by kernel_rfl) (listed' := #[true, true, true, true, true, true, true, true, false, false, false, false, false]) rfl (fun _ _ _ _ _ h => h) hwx ?_
                     apply Exists.intro
                     refine ⟨⟨by kernel_rfl, fun wy hw => ?_⟩, ?_⟩
                     · (have bw := hw.below; go_simp; try (first | (with_reducible rfl) | (with_reducible exact ⟨rfl, rfl⟩)))
                     try simp only [Act.put, List.getElem_toArray, List.getElem_cons_succ, List.getElem_cons_zero, List.setIfInBounds_toArray, List.set_cons_succ, List.set_cons_zero]
                     refine wpAnyK_ex (i := 8) rfl (by kernel_rfl) (listed' := #[true, true, true, true, true, true, true, true, true, false, false, false, false]) rfl (fun _ _ _ _ _ h => h) hwx ?_
                     apply Exists.intro
                     refine ⟨⟨by kernel_rfl, fun wy hw => ?_⟩, ?_⟩
                     · (have bw := hw.below; go_simp; try (first | (with_reducible rfl) | (with_reducible exact ⟨rfl, rfl⟩)))
                     try simp only [Act.put, List.getElem_toArray, List.getElem_cons_succ, List.getElem_cons_zero, List.setIfInBounds_toArray, List.set_cons_succ, List.set_cons_zero]
                     refine wpAnyK_ex (i := 9) rfl (by kernel_rfl) (listed' := #[true, true, true, true, true, true, true, true, true, true, false, false, false]) rfl (fun _ _ _ _ _ h => h) hwx ?_
                     apply Exists.intro
                     refine ⟨⟨by kernel_rfl, fun wy hw => ?_⟩, ?_⟩
                     · (have bw := hw.below; go_simp; try (first | (with_reducible rfl) | (with_reducible exact ⟨rfl, rfl⟩)))
                     try simp only [Act.put, List.getElem_toArray, List.getElem_cons_succ, List.getElem_cons_zero, List.setIfInBounds_toArray, List.set_cons_succ, List.set_cons_zero]
                     refine wpAnyK_ex (i := 10) rfl (by kernel_rfl) (listed' := #[true, true, true, true, true, true, true, true, true, true, true, false, false]) rfl (fun _ _ _ _ _ h => h) hwx ?_
                     apply Exists.intro
                     refine ⟨⟨by kernel_rfl, fun wy hw => ?_⟩, ?_⟩
                     · (have bw := hw.below; have fx := (show wy.cell? ⟨B, 12, none⟩ = some (.int .i64 s4.msg) from (HM9.out.cells.below bw 12 (show 12 < 19 by decide)).1); go_simp; try (first | (with_reducible rfl) | (with_reducible exact ⟨rfl, rfl⟩)))
                     try simp only [Act.put, List.getElem_toArray, List.getElem_cons_succ, List.getElem_cons_zero, List.setIfInBounds_toArray, List.set_cons_succ, List.set_cons_zero]
                     refine wpAnyK_ex (i := 11) rfl (by kernel_rfl) (listed' := #[true, true, true, true, true, true, true, true, true, true, true, true, false]) rfl (fun _ _ _ _ _ h => h) hwx ?_
                     apply Exists.intro
                     refine ⟨⟨by kernel_rfl, fun wy hw => ?_⟩, ?_⟩
                     · (have bw := hw.below; go_simp; try (first | (with_reducible rfl) | (with_reducible exact ⟨rfl, rfl⟩)))
                     try simp only [Act.put, List.getElem_toArray, List.getElem_cons_succ, List.getElem_cons_zero, List.setIfInBounds_toArray, List.set_cons_succ, List.set_cons_zero]
                     refine wpAnyK_end (by kernel_rfl) ?_
                     try simp only [pickOps, List.filterMap_cons, List.filterMap_nil, List.getElem?_toArray, List.getElem?_cons_succ, List.getElem?_cons_zero]
                     as_aux_lemma =>
                      have HBX := Lib.hid hwx.below
                      have HMA := Lib.hid (HM9.out.up HBX.out (Nat.le_refl _))
                      have HBA := Lib.hid (show Below (w.heap.size + 1) w1 wx from HB9.out.trans (HBX.out.mono (by have := HBB.out; have := HM9.out.lt; omega)))
                      clear hwx HM9 HB9 HBX
                      go_wp2_with fail
                      refine (addR_any (w.heap.size + 1) B G s4 s1.ags.length (⟨0, 0, 0, 4, 0, 0, s4.msg, 0, 0, 0, 0, 0⟩ : Ev) (by rw [HS4.out.1]; omega) (HBD9.out.small (by omega)) _ ⟨_, _, _, _, _, HMA.out⟩).mono ?_
                      rintro e zB ⟨rfl, hz, hb⟩
                      have HBDB := Lib.hid (HBD9.out.add s1.ags.length (⟨0, 0, 0, 4, 0, 0, s4.msg, 0, 0, 0, 0, 0⟩ : Ev))
                      have HBB2 := Lib.hid (HBA.out.trans hb)
                      have HS5 := Lib.hid (show (addM s4 s1.ags.length (⟨0, 0, 0, 4, 0, 0, s4.msg, 0, 0, 0, 0, 0⟩ : Ev)).ags = s1.ags ++ [ag] ∧ (addM s4 s1.ags.length (⟨0, 0, 0, 4, 0, 0, s4.msg, 0, 0, 0, 0, 0⟩ : Ev)).msg = s1.msg ∧ (addM s4 s1.ags.length (⟨0, 0, 0, 4, 0, 0, s4.msg, 0, 0, 0, 0, 0⟩ : Ev)).pars = s1.pars ∧ (addM s4 s1.ags.length (⟨0, 0, 0, 4, 0, 0, s4.msg, 0, 0, 0, 0, 0⟩ : Ev)).opn = s1.opn ∧ (addM s4 s1.ags.length (⟨0, 0, 0, 4, 0, 0, s4.msg, 0, 0, 0, 0, 0⟩ : Ev)).hol = s1.hol ∧ addM s4 s1.ags.length (⟨0, 0, 0, 4, 0, 0, s4.msg, 0, 0, 0, 0, 0⟩ : Ev) = addM { s3 with ags := s1.ags ++ [ag] } s1.ags.length (evS 4 s1.msg 0) from ⟨HS4.out.2.1, HS4.out.2.2.1, HS4.out.2.2.2.1, HS4.out.2.2.2.2.1, HS4.out.2.2.2.2.2.1, (congrArg (fun t : Mk => addM t s1.ags.length (evS 4 s4.msg 0)) HS4.out.2.2.2.2.2.2).trans (congrArg (fun z : Int => addM { s3 with ags := s1.ags ++ [ag] } s1.ags.length (evS 4 z 0)) HS4.out.2.2.1)⟩)
                      generalize addM s4 s1.ags.length (⟨0, 0, 0, 4, 0, 0, s4.msg, 0, 0, 0, 0, 0⟩ : Ev) = s5 at *
                      obtain ⟨vo5, va5, vp5, vq5, vh5, hm5⟩ := hz
                      have hl5 : s5.ags.length = s1.ags.length + 1 := by rw [HS5.out.1]; simp
                      obtain ⟨g5, c5, ev5, _, _, _⟩ := hm5.ra.block (by omega)
                      subst ev5
                      have hc5 : s1.ags.length ≤ c5 := by
                       obtain ⟨_, _, ef5, h⟩ := hm5.ra.form
                       injection ef5 with e1 e2 e3
                       omega
                      have HMB := Lib.hid hm5
                      have HDB := Lib.hid (hm5.dd HGX.out.1 HGX.out.2.1)
                      have hwt : IntKind.i64.wrap ((s5.ags.length : Int) - 1) = (s1.ags.length : Int) := by rw [hl5]; rw [wrapq8 (by have := HW5.out.l4; omega)]; omega
                      have HL5 := Lib.hid hl5
                      clear hl5 hm5 hb HMA HBA HBD9 hws hle4
                      go_wp2_with fail
                      refine NoPanic.normal ?_
                      go_upto_region 19 with fail
                      as_aux_lemma =>
                       refine wp_region_noPanic ?_
                       refine wp_region_Kp (C := Grew zB) [0] [12, 13, 14] 11 #[true, false, false, false, false, false, false, false, false, false, false, false, false, false, false] (by kernel_rfl) (by kernel_rfl) (by kernel_rfl) (by kernel_rfl) (grew0 _) (fun _ _ _ _ _ h => h) ?_
                       simp only [pickOps, List.filterMap_cons, List.filterMap_nil, List.getElem?_toArray, List.getElem?_cons_succ, List.getElem?_cons_zero]
                       refine wpPure_step (fun K hK => ?_)
                       apply Exists.intro
                       refine ⟨⟨by rfl, fun wx => ?_⟩, hK _ ?_⟩
                       · (go_simp; try (first | (with_reducible rfl) | (with_reducible exact ⟨rfl, rfl⟩)))
                       clear hK K
                       try simp only [Act.put, List.setIfInBounds_toArray, List.set_cons_succ, List.set_cons_zero]
                       refine wpPure_nil ?_
                       intro wx hwx
                       have HBX := Lib.hid hwx.below
                       have e1 : wx.cell? ⟨B, 8, none⟩ = some (.slice (some ⟨g5, 0, none⟩) s5.ags.length c5) := (HMB.out.cells.below HBX.out 8 (show 8 < 19 by decide)).1
                       have e2 := (HMB.out.cells.below HBX.out 8 (show 8 < 19 by decide)).2
                       refine wpAnyK_ex (i := 1) rfl (by kernel_rfl) (listed' := #[true, true, false, false, false, false, false, false, false, false, false, false, false, false, false]) rfl (fun _ _ _ _ _ h => h) hwx ?_
                       apply Exists.intro
                       refine ⟨⟨by kernel_rfl, fun wy hw => ?_⟩, ?_⟩
                       · (have bw := hw.below; go_simp; try (first | (with_reducible rfl) | (with_reducible exact ⟨rfl, rfl⟩)))
                       try simp only [Act.put, List.getElem_toArray, List.getElem_cons_succ, List.getElem_cons_zero, List.setIfInBounds_toArray, List.set_cons_succ, List.set_cons_zero]
                       refine wpAnyK_ex (i := 2) rfl (by kernel_rfl) (listed' := #[true, true, true, false, false, false, false, false, false, false, false, false, false, false, false]) rfl (fun _ _ _ _ _ h => h) hwx ?_
                       apply Exists.intro
                       refine ⟨⟨by kernel_rfl, fun wy hw => ?_⟩, ?_⟩
                       · (have bw := hw.below; go_simp; try (first | (with_reducible rfl) | (with_reducible exact ⟨rfl, rfl⟩)))
                       try simp only [Act.put, List.getElem_toArray, List.getElem_cons_succ, List.getElem_cons_zero, List.setIfInBounds_toArray, List.set_cons_succ, List.set_cons_zero]
                       refine wpAnyK_ex (i := 3) rfl (by kernel_rfl) (listed' := #[true, true, true, true, false, false, false, false, false, false, false, false, false, false, false]) rfl (fun _ _ _ _ _ h => h) hwx ?_
                       apply Exists.intro
                       refine ⟨⟨by kernel_rfl, fun wy hw => ?_⟩, ?_⟩
                       · (have bw := hw.below; go_simp; try (first | (with_reducible rfl) | (with_reducible exact ⟨rfl, rfl⟩)))
                       try simp only [Act.put, List.getElem_toArray, List.getElem_cons_succ, List.getElem_cons_zero, List.setIfInBounds_toArray, List.set_cons_succ, List.set_cons_zero]
                       refine wpAnyK_ex (i := 4) rfl (by kernel_rfl) (listed' := #[true, true, true, true, true, false, false, false, false, false, false, false, false, false, false]) rfl (fun _ _ _ _ _ h => h) hwx ?_
                       apply Exists.intro
                       refine ⟨⟨by kernel_rfl, fun wy hw => ?_⟩, ?_⟩
                       · (have bw := hw.below; have fx := (show wy.cell? ⟨B, 8, none⟩ = some (.slice (some ⟨g5, 0, none⟩) s5.ags.length c5) from (HMB.out.cells.below bw 8 (show 8 < 19 by decide)).1); go_simp; try (first | (with_reducible rfl) | (with_reducible exact ⟨rfl, rfl⟩)))
                       try simp only [Act.put, List.getElem_toArray, List.getElem_cons_succ, List.getElem_cons_zero, List.setIfInBounds_toArray, List.set_cons_succ, List.set_cons_zero]
                       refine wpAnyK_ex (i := 5) rfl (by kernel_rfl) (listed' := #[true, true, true, true, true, true, false, false, false, false, false, false, false, false, false]) rfl (fun _ _ _ _ _ h => h) hwx ?_
                       apply Exists.intro
                       refine ⟨⟨by kernel_rfl, fun wy hw => ?_⟩, ?_⟩
                       · (have bw := hw.below; go_simp; try (first | (with_reducible rfl) | (with_reducible exact ⟨rfl, rfl⟩)))
                       try simp only [Act.put, List.getElem_toArray, List.getElem_cons_succ, List.getElem_cons_zero, List.setIfInBounds_toArray, List.set_cons_succ, List.set_cons_zero]
                       refine wpAnyK_ex (i := 6) rfl (by kernel_rfl) (listed' := #[true, true, true, true, true, true, true, false, false, false, false, false, false, false, false]) rfl (fun _ _ _ _ _ h => h) hwx ?_
                       apply Exists.intro
                       refine ⟨⟨by kernel_rfl, fun wy hw => ?_⟩, ?_⟩
                       · (have bw := hw.below; go_simp; try (first | (with_reducible rfl) | (with_reducible exact ⟨rfl, rfl⟩)))
                       try simp only [Act.put, List.getElem_toArray, List.getElem_cons_succ, List.getElem_cons_zero, List.setIfInBounds_toArray, List.set_cons_succ, List.set_cons_zero]
                       refine wpAnyK_ex (i := 7) rfl (by kernel_rfl) (listed' := #[true, true, true, true, true, true, true, true, false, false, false, false, false, false, false]) rfl (fun _ _ _ _ _ h => h) hwx ?_
                       apply Exists.intro
                       refine ⟨⟨by kernel_rfl, fun wy hw => ?_⟩, ?_⟩
                       · (have bw := hw.below; go_simp; try (first | (with_reducible rfl) | (with_reducible exact ⟨rfl, rfl⟩)))
                       try simp only [Act.put, List.getElem_toArray, List.getElem_cons_succ, List.getElem_cons_zero, List.setIfInBounds_toArray, List.set_cons_succ, List.set_cons_zero]
                       refine wpAnyK_ex (i := 8) rfl (by kernel_rfl) (listed' := #[true, true, true, true, true, true, true, true, true, false, false, false, false, false, false]) rfl (fun _ _ _ _ _ h => h) hwx ?_
                       apply Exists.intro
                       refine ⟨⟨by kernel_rfl, fun wy hw => ?_⟩, ?_⟩
                       · (have bw := hw.below; have fx := (show wy.cell? ⟨B, 8, none⟩ = some (.slice (some ⟨g5, 0, none⟩) s5.ags.length c5) from (HMB.out.cells.below bw 8 (show 8 < 19 by decide)).1); go_simp; try (first | (with_reducible rfl) | (with_reducible exact ⟨rfl, rfl⟩)))
                       try simp only [Act.put, List.getElem_toArray, List.getElem_cons_succ, List.getElem_cons_zero, List.setIfInBounds_toArray, List.set_cons_succ, List.set_cons_zero]
                       refine wpAnyK_ex (i := 9) rfl (by kernel_rfl) (listed' := #[true, true, true, true, true, true, true, true, true, true, false, false, false, false, false]) rfl (fun _ _ _ _ _ h => h) hwx ?_
                       apply Exists.intro
                       refine ⟨⟨by kernel_rfl, fun wy hw => ?_⟩, ?_⟩
                       · (have bw := hw.below; go_simp; try (first | (with_reducible rfl) | (with_reducible exact ⟨rfl, rfl⟩)))
                       try simp only [Act.put, List.getElem_toArray, List.getElem_cons_succ, List.getElem_cons_zero, List.setIfInBounds_toArray, List.set_cons_succ, List.set_cons_zero]
                       refine wpAnyK_ex (i := 10) rfl (by kernel_rfl) (listed' := #[true, true, true, true, true, true, true, true, true, true, true, false, false, false, false]) rfl (fun _ _ _ _ _ h => h) hwx ?_
                       apply Exists.intro
                       refine ⟨⟨by kernel_rfl, fun wy hw => ?_⟩, ?_⟩
                       · (have bw := hw.below; go_simp; try (first | (with_reducible rfl) | (with_reducible exact ⟨rfl, rfl⟩)))
                       try simp only [Act.put, List.getElem_toArray, List.getElem_cons_succ, List.getElem_cons_zero, List.setIfInBounds_toArray, List.set_cons_succ, List.set_cons_zero]
                       refine wpAnyK_ex (i := 11) rfl (by kernel_rfl) (listed' := #[true, true, true, true, true, true, true, true, true, true, true, true, false, false, false]) rfl (fun _ _ _ _ _ h => h) hwx ?_
                       apply Exists.intro
                       refine ⟨⟨by kernel_rfl, fun wy hw => ?_⟩, ?_⟩
                       · (have bw := hw.below; go_simp; try (first | (with_reducible rfl) | (with_reducible exact ⟨rfl, rfl⟩)))
                       try simp only [Act.put, List.getElem_toArray, List.getElem_cons_succ, List.getElem_cons_zero, List.setIfInBounds_toArray, List.set_cons_succ, List.set_cons_zero]
                       refine wpAnyK_end (by kernel_rfl) ?_
                       try simp only [pickOps, List.filterMap_cons, List.filterMap_nil, List.getElem?_toArray, List.getElem?_cons_succ, List.getElem?_cons_zero]
                       as_aux_lemma =>
                        clear hwx
                        go_wp2_with fail
                        refine NoPanic.normal ?_
                        go_upto_region 20 with fail
                        obtain ⟨wC, hwC⟩ : ∃ wC, wC = wx.setCell ⟨B, 8, none⟩ (.slice (some ⟨g5, 0, none⟩) s1.ags.length c5) := ⟨_, rfl⟩
                        rw [← hwC]
                        obtain ⟨s6, hs6⟩ : ∃ s6 : Mk, s6 = { s5 with ags := s1.ags } := ⟨_, rfl⟩
                        have HMC := Lib.hid (show MkP wC (w.heap.size + 1) B G s6 _ _ _ _ _ by rw [hwC, hs6]; exact (HMB.out.up HBX.out (Nat.le_refl _)).cut_ags s1.ags.length (by have := HL5.out; omega) s1.ags (by rw [HS5.out.1]; simp))
                        have HBC := Lib.hid (show Below (w.heap.size + 1) w1 wC by rw [hwC]; exact (HBB2.out.trans (HBX.out.mono (by have := HBB.out; have := HMB.out.lt; omega))).setCell HBB.out _)
                        have HBD10 := Lib.hid (show s6.bd (1 + 8 * k + 1 + 1 + 1 + 1) from by rw [hs6]; exact HBDB.out.of rfl rfl rfl rfl rfl rfl rfl)
                        have HS6 := Lib.hid (show s6.ags = s1.ags ∧ s6.msg = s1.msg ∧ s6.pars = s1.pars ∧ s6.opn = s1.opn ∧ s6.hol = s1.hol ∧ s6 = { addM { s3 with ags := s1.ags ++ [ag] } s1.ags.length (evS 4 s1.msg 0) with ags := s1.ags } from by rw [hs6]; exact ⟨rfl, HS5.out.2.1, HS5.out.2.2.1, HS5.out.2.2.2.1, HS5.out.2.2.2.2.1, by rw [← HS5.out.2.2.2.2.2]⟩)
                        clear hwC hs6 e1 e2 HMB HBB2 HBX HBDB HS5 HL5 hc5 hwt HDB
                        have HDC := Lib.hid (HMC.out.dd HGX.out.1 HGX.out.2.1)
                        have HLW := Lib.hid (show Below w1.heap.size w1 wC from by rw [HZ1.out]; exact HBC.out)
                        refine wp_region_noPanic ?_
                        refine wp_region_Kx (C := Grew wC) [11] 11 #[false, false, false, false, false, false, false, false, false, false, false, false] (by kernel_rfl) (by kernel_rfl) (by kernel_rfl) (grew0 _) ?_
                        intro wx hwx
                        refine wpAnyK_ex (i := 0) rfl (by kernel_rfl) (listed' := #[true, false, false, false, false, false, false, false, false, false, false, false]) rfl (fun _ _ _ _ _ h => h) hwx ?_
                        apply Exists.intro
                        refine ⟨⟨by kernel_rfl, fun wy hw => ?_⟩, ?_⟩
                        · (have bw := hw.below; go_simp; try (first | (with_reducible rfl) | (with_reducible exact ⟨rfl, rfl⟩)))
                        try simp only [Act.put, List.getElem_toArray, List.getElem_cons_zero, List.setIfInBounds_toArray, List.set_cons_succ, List.set_cons_zero]
                        refine wpAnyK_ex (i := 1) rfl (by kernel_rfl) (listed' := #[true, true, false, false, false, false, false, false, false, false, false, false]) rfl (fun _ _ _ _ _ h => h) hwx ?_
                        apply Exists.intro
                        refine ⟨⟨by kernel_rfl, fun wy hw => ?_⟩, ?_⟩
                        · (have bw := hw.below; go_simp; try (first | (with_reducible rfl) | (with_reducible exact ⟨rfl, rfl⟩)))
                        try simp only [Act.put, List.getElem_toArray, List.getElem_cons_succ, List.getElem_cons_zero, List.setIfInBounds_toArray, List.set_cons_succ, List.set_cons_zero]
                        refine wpAnyK_ex (i := 2) rfl (by kernel_rfl) (listed' := #[true, true, true, false, false, false, false, false, false, false, false, false]) rfl (fun _ _ _ _ _ h => h) hwx ?_
                        apply Exists.intro
                        refine ⟨⟨by kernel_rfl, fun wy hw => ?_⟩, ?_⟩
                        · (have bw := hw.below; go_simp; try (first | (with_reducible rfl) | (with_reducible exact ⟨rfl, rfl⟩)))
                        try simp only [Act.put, List.getElem_toArray, List.getElem_cons_succ, List.getElem_cons_zero, List.setIfInBounds_toArray, List.set_cons_succ, List.set_cons_zero]
                        refine wpAnyK_ex (i := 3) rfl (by kernel_rfl) (listed' := #[true, true, true, true, false, false, false, false, false, false, false, false]) rfl (fun _ _ _ _ _ h => h) hwx ?_
                        apply Exists.intro
                        refine ⟨⟨by kernel_rfl, fun wy hw => ?_⟩, ?_⟩
                        · (have bw := hw.below; have fx := (show wy.cell? ⟨D, 2, none⟩ = some (.int .i64 dv.c) from (HDC.out.below bw 2 (by simp)).1); go_simp; try (first | (with_reducible rfl) | (with_reducible exact ⟨rfl, rfl⟩)))
                        try simp only [Act.put, List.getElem_toArray, List.getElem_cons_succ, List.getElem_cons_zero, List.setIfInBounds_toArray, List.set_cons_succ, List.set_cons_zero]
                        refine wpAnyK_ex (i := 4) rfl (by kernel_rfl) (listed' := #[true, true, true, true, true, false, false, false, false, false, false, false]) rfl (fun _ _ _ _ _ h => h) hwx ?_
                        apply Exists.intro
                        refine ⟨⟨by kernel_rfl, fun wy hw => ?_⟩, ?_⟩
                        · (have bw := hw.below; go_simp; try (first | (with_reducible rfl) | (with_reducible exact ⟨rfl, rfl⟩)))
                        try simp only [Act.put, List.getElem_toArray, List.getElem_cons_succ, List.getElem_cons_zero, List.setIfInBounds_toArray, List.set_cons_succ, List.set_cons_zero]
                        refine wpAnyK_ex (i := 5) rfl (by kernel_rfl) (listed' := #[true, true, true, true, true, true, false, false, false, false, false, false]) rfl (fun _ _ _ _ _ h => h) hwx ?_
                        apply Exists.intro
                        refine ⟨⟨by kernel_rfl, fun wy hw => ?_⟩, ?_⟩
                        · (have bw := hw.below; have fx := (show wy.cell? ⟨w.heap.size, 0, none⟩ = some (.slice F.a1 F.n1 F.c1) from ((HK1.out.below HLW.out).below bw 0 (by simp)).1); go_simp; try (first | (with_reducible rfl) | (with_reducible exact ⟨rfl, rfl⟩)))
                        try simp only [Act.put, List.getElem_toArray, List.getElem_cons_succ, List.getElem_cons_zero, List.setIfInBounds_toArray, List.set_cons_succ, List.set_cons_zero]
                        refine wpAnyK_ex (i := 6) rfl (by kernel_rfl) (listed' := #[true, true, true, true, true, true, true, false, false, false, false, false]) rfl (fun _ _ _ _ _ h => h) hwx ?_
                        apply Exists.intro
                        refine ⟨⟨by kernel_rfl, fun wy hw => ?_⟩, ?_⟩
                        · (have bw := hw.below; go_simp; try (first | (with_reducible rfl) | (with_reducible exact ⟨rfl, rfl⟩)))
                        try simp only [Act.put, List.getElem_toArray, List.getElem_cons_succ, List.getElem_cons_zero, List.setIfInBounds_toArray, List.set_cons_succ, List.set_cons_zero]
                        refine wpAnyK_callx (i := 7) rfl (by kernel_rfl) (listed' := #[true, true, true, true, true, true, true, true, false, false, false, false]) rfl (fun _ _ _ _ _ h => h) hwx ?_
                        apply Exists.intro
                        apply Exists.intro
                        apply Exists.intro
                        refine ⟨⟨by kernel_rfl, fun wy hw => ?_, fun wy hw => ?_⟩, ?_⟩
                        · (have bw := hw.below; go_simp; try (first | (with_reducible rfl) | (with_reducible exact ⟨rfl, rfl⟩)))
                        · (exact HPC.out _)
                        try simp only [Act.put, List.getElem_toArray, List.getElem_cons_succ, List.getElem_cons_zero, List.setIfInBounds_toArray, List.set_cons_succ, List.set_cons_zero]
                        refine wpAnyK_ex (i := 8) rfl (by kernel_rfl) (listed' := #[true, true, true, true, true, true, true, true, true, false, false, false]) rfl (fun _ _ _ _ _ h => h) hwx ?_
                        apply Exists.intro
                        refine ⟨⟨by kernel_rfl, fun wy hw => ?_⟩, ?_⟩
                        · (have bw := hw.below; go_simp; try (first | (with_reducible rfl) | (with_reducible exact ⟨rfl, rfl⟩)))
                        try simp only [Act.put, List.getElem_toArray, List.getElem_cons_succ, List.getElem_cons_zero, List.setIfInBounds_toArray, List.set_cons_succ, List.set_cons_zero]
                        refine wpAnyK_ex (i := 9) rfl (by kernel_rfl) (listed' := #[true, true, true, true, true, true, true, true, true, true, false, false]) rfl (fun _ _ _ _ _ h => h) hwx ?_
                        apply Exists.intro
                        refine ⟨⟨by kernel_rfl, fun wy hw => ?_⟩, ?_⟩
                        · (have bw := hw.below; have fx := (show wy.cell? ⟨D, 2, none⟩ = some (.int .i64 dv.c) from (HDC.out.below bw 2 (by simp)).1); go_simp; try (first | (with_reducible rfl) | (with_reducible exact ⟨rfl, rfl⟩)))
                        try simp only [Act.put, List.getElem_toArray, List.getElem_cons_succ, List.getElem_cons_zero, List.setIfInBounds_toArray, List.set_cons_succ, List.set_cons_zero]
                        refine wpAnyK_ex (i := 10) rfl (by kernel_rfl) (listed' := #[true, true, true, true, true, true, true, true, true, true, true, false]) rfl (fun _ _ _ _ _ h => h) hwx ?_
                        apply Exists.intro
                        refine ⟨⟨by kernel_rfl, fun wy hw => ?_⟩, ?_⟩
                        · (have bw := hw.below; go_simp; try (first | (with_reducible rfl) | (with_reducible exact ⟨rfl, rfl⟩)))
                        try simp only [Act.put, List.getElem_toArray, List.getElem_cons_succ, List.getElem_cons_zero, List.setIfInBounds_toArray, List.set_cons_succ, List.set_cons_zero]
                        refine wpAnyK_end (by kernel_rfl) ?_
                        try simp only [pickOps, List.filterMap_cons, List.filterMap_nil, List.getElem?_toArray, List.getElem?_cons_succ, List.getElem?_cons_zero]
                        as_aux_lemma =>
                         have HBX := Lib.hid hwx.below
                         have HMD := Lib.hid (HMC.out.up HBX.out (Nat.le_refl _))
                         have HBE := Lib.hid (show Below (w.heap.size + 1) w1 wx from HBC.out.trans (HBX.out.mono (by have := HBB.out; have := HMC.out.lt; omega)))
                         have hfew : s6.few := by
                          have h4 := HW5.out.l4; have h5 := HW5.out.p; have h6 := HW5.out.o; have h7 := HW5.out.h
                          refine ⟨?_, ?_, ?_, ?_⟩
                          · rw [HS6.out.1]; omega
                          · rw [HS6.out.2.2.1]; omega
                          · rw [HS6.out.2.2.2.1]; omega
                          · rw [HS6.out.2.2.2.2.1]; omega
                         clear hwx HMC HBC HBX HDC
                         go_wp2_with fail
                         refine (beginR_any (w.heap.size + 1) B G s6 (p : Int) ag dv.c pe (by rw [HGX.out.2.2.2]; exact HF.out.2.1.1) (by rw [HGX.out.2.2.2]; exact HF.out.2.1.2) fcc fc1 (HBD10.out.small (by omega)) hfew _ ⟨_, _, _, _, _, HMD.out⟩).mono ?_
                         rintro e zE ⟨rfl, hz, hb⟩
                         rw [HGX.out.2.2.2] at hz
                         have HBF := Lib.hid (HBE.out.trans hb)
                         have HRB := Lib.hid (show sn = { begM F.n2 s6 (p : Int) ag dv.c pe with msg := s1.msg + 1 } from by rw [HR0.out, HAG.out, ← HS6.out.2.2.2.2.2])
                         have HSM := Lib.hid (show (begM F.n2 s6 (p : Int) ag dv.c pe).msg = s1.msg from HS6.out.2.1)
                         generalize begM F.n2 s6 (p : Int) ag dv.c pe = s7 at *
                         obtain ⟨vo7, va7, vp7, vq7, vh7, hm7⟩ := hz
                         have HMF := Lib.hid hm7
                         have g12 : zE.cell? ⟨B, 12, none⟩ = some (.int .i64 s1.msg) := by rw [← HSM.out]; exact (hm7.cells 12 (show 12 < 19 by decide)).1
                         have g13 := (hm7.cells 12 (show 12 < 19 by decide)).2
                         have hmb := HBD10.out.2.2.2.1
                         rw [HS6.out.2.1] at hmb
                         have hwm : IntKind.i64.wrap (s1.msg + 1) = s1.msg + 1 := wrapq8 (by omega)
                         clear hm7 hb hmb HMD HBE HAG HR0
                         go_wp2_with fail
                         refine NoPanic.normal ?_
                         go_wp2_with fail
                         have HMG := Lib.hid (show MkP (zE.setCell ⟨B, 12, none⟩ (.int .i64 (s1.msg + 1))) (w.heap.size + 1) B G { s7 with msg := s1.msg + 1 } _ _ _ _ _ from HMF.out.put 12 _ { s7 with msg := s1.msg + 1 } rfl rfl rfl rfl rfl rfl)
                         have HBH := Lib.hid (show Below (w.heap.size + 1) w1 (zE.setCell ⟨B, 12, none⟩ (.int .i64 (s1.msg + 1))) from HBF.out.setCell HBB.out _)
                         have HR := Lib.hid HRB.out
                         as_aux_lemma =>
                          go_roundw
                          case rel => exact ⟨k + 1, sn, by go_num, Lib.hid ⟨HLT.out, H60.out, HLOOP.out, HWN.out, HBN.out⟩, Lib.hid (by rw [HR.out]; exact ⟨_, _, _, _, _, HMG.out.unframe hFx HG.out⟩), HBH⟩
                          case measure => have h9 := HLT.out; simp [RowKit.intOf]; omega
           · skip
             as_aux_lemma =>
              have h2' : decide (q ≤ 2) = false := decide_eq_false h2
              have h345 : q = 3 ∨ q = 4 ∨ q = 5 := by omega
              have HFC := Lib.hid HDF.out.2.2.1
              have y2 := (show w5.cell? ⟨D, 2, none⟩ = some (.int .i64 dv.c) from (HD5.out 2 (by simp)).1)
              clear h6 h2 HDF
              rcases h345 with rfl | rfl | rfl
              · skip
                have HRA := Lib.hid (show sn = acqM s1 p dv from HSQ.out)
                have HPR := Lib.hid (fun W => pickR8_any dv.c 3 HFC.out.1 HFC.out.2 (by decide) (by decide) W)
                have r0 := pick8_lo (c := dv.c) (n := 3) (by decide)
                have r1 := pick8_hi (c := dv.c) (n := 3) (by decide)
                have HAQ := Lib.hid (show acqM s1 p dv = if s1.tk (pick8 dv.c 3) = false ∧ s1.hol.getD p 0 < 0 then { ((addM s1 p (evS 5 (pick8 dv.c 3) (s1.gr (pick8 dv.c 3)))).take_ (pick8 dv.c 3)) with hol := s1.hol.set p (pick8 dv.c 3) } else s1 from rfl)
                generalize pick8 dv.c 3 = r at *
                obtain ⟨gh, ch, evh, _, hgh, hih, hch⟩ := HM5.out.rh.int8 p (by rw [HW5.out.h]; exact hp5)
                subst evh
                have c11 : w5.cell? ⟨B, 11, none⟩ = some (.slice (some ⟨gh, 0, none⟩) s1.hol.length ch) := (HM5.out.cells 11 (show 11 < 19 by decide)).1
                obtain ⟨x1, _⟩ := hch w5 _ (Below.refl _ w5) hgh
                have HRA := Lib.hid (HRA.out.trans HAQ.out)
                generalize s1.hol.getD p 0 = hv at *
                clear HAQ hch HSQ
                go_upto_region 24 with (go_at_call 38; refine (HPR.out _).mono ?_; rintro e z ⟨rfl, rfl⟩)
                clear y2 HPR
                have h3 : r = 0 ∨ r = 1 ∨ r = 2 := by omega
                clear r0 r1
                rcases h3 with rfl | rfl | rfl
                · skip
                  as_aux_lemma =>
                   have ct := (show w5.cell? ⟨B, 16, none⟩ = some (.bool s1.t0) from (HM5.out.cells 16 (show 16 < 19 by decide)).1)
                   have HRA := Lib.hid (show sn = if s1.t0 = false ∧ hv < 0 then { (addM s1 p (evS 5 0 s1.g0)) with t0 := true, hol := s1.hol.set p 0 } else s1 from HRA.out)
                   cases ht : s1.t0 with
                   | true =>
                    rw [ht] at ct
                    have HR := Lib.hid (show sn = s1 from by rw [HRA.out, if_neg (fun h => by rw [ht] at h; exact absurd h.1 (by decide))])
                    clear ht
                    go_wp2_with fail
                    go_roundw
                    case rel => exact ⟨k + 1, sn, by go_num, Lib.hid ⟨HLT.out, H60.out, HLOOP.out, HWN.out, HBN.out⟩, Lib.hid (by rw [HR.out]; exact ⟨_, _, _, _, _, HM5.out.unframe hFx HG.out⟩), HB5⟩
                    case measure => have h9 := HLT.out; simp [RowKit.intOf]; omega
                   | false =>
                    rw [ht] at ct
                    by_cases hn : hv < 0
                    · have hn' : decide (hv < 0) = true := decide_eq_true hn
                      have HR := Lib.hid (show sn = { (addM s1 p (evS 5 0 s1.g0)) with t0 := true, hol := s1.hol.set p 0 } from by rw [HRA.out, if_pos ⟨ht, hn⟩])
                      have cg := (show w5.cell? ⟨B, 13, none⟩ = some (.int .i64 s1.g0) from (HM5.out.cells 13 (show 13 < 19 by decide)).1)
                      clear ht HRA
                      go_wp2_with fail
                      refine (addR_any (w.heap.size + 1) B G s1 p (⟨0, 0, 0, 5, 0, 0, 0, s1.g0, 0, 0, 0, 0⟩ : Ev) hp5 (HBD5.out.small (by omega)) _ ⟨_, _, _, _, _, HM5.out⟩).mono ?_
                      rintro e z2 ⟨rfl, hz, hb⟩
                      have HB6 := Lib.hid (HB5.out.trans hb)
                      have HR := Lib.hid (show sn = { (addM s1 p (⟨0, 0, 0, 5, 0, 0, 0, s1.g0, 0, 0, 0, 0⟩ : Ev)) with t0 := true, hol := s1.hol.set p 0 } from HR.out)
                      have HS2 := Lib.hid (show (addM s1 p (⟨0, 0, 0, 5, 0, 0, 0, s1.g0, 0, 0, 0, 0⟩ : Ev)).hol = s1.hol from rfl)
                      generalize addM s1 p (⟨0, 0, 0, 5, 0, 0, 0, s1.g0, 0, 0, 0, 0⟩ : Ev) = s2 at *
                      obtain ⟨vo2, va2, vp2, vq2, vh2, hm2⟩ := hz
                      have hph : p < s2.hol.length := by rw [HS2.out, HW5.out.h]; exact hp5
                      obtain ⟨gh2, ch2, evh2, _, hgh2, hih2, hch2⟩ := hm2.rh.int8 p hph
                      subst evh2
                      have HM6 := Lib.hid hm2
                      obtain ⟨d1, _⟩ := hch2 z2 _ (Below.refl _ z2) hgh2
                      have HGB := Lib.hid (show w.heap.size + 1 ≤ gh2 from (hm2.rh.ge gh2 rfl).1)
                      have hgb : ¬ gh2 = B := fun e => HM6.out.ap.ne 0 5 B rfl (by decide) rfl (by rw [e]; rfl)
                      have hgb2 : ¬ B = gh2 := fun e => hgb e.symm
                      have e11 : z2.cell? ⟨B, 11, none⟩ = some (.slice (some ⟨gh2, 0, none⟩) s2.hol.length ch2) := (hm2.cells 11 (show 11 < 19 by decide)).1
                      have e16 : z2.cell? ⟨B, 16, none⟩ = some (.bool s2.t0) := (hm2.cells 16 (show 16 < 19 by decide)).1
                      have e17 := (hm2.cells 16 (show 16 < 19 by decide)).2
                      have hx1 := hm2.rh.cell p hph 0 (by decide)
                      rw [show KI.n * p + 0 = p by show 1 * p + 0 = p; omega] at hx1
                      obtain ⟨hx2, hx3⟩ := hx1
                      have HPH := Lib.hid hph
                      clear hm2 hb hch2 cg c11 x1 hih ct HM5 HB5 hx2 hph hn hn' HD5
                      go_wp2_with fail
                      have HMG := Lib.hid (show MkP ((z2.setCell ⟨B, 16, none⟩ (.bool true)).setCell ⟨gh2, p, none⟩ (.int .i64 0)) (w.heap.size + 1) B G { s2 with t0 := true, hol := s1.hol.set p 0 } _ _ _ _ _ from by rw [← HS2.out]; exact (HM6.out.put 16 _ { s2 with t0 := true } rfl rfl rfl rfl rfl rfl).set_hol (x := 0) p HPH.out)
                      have HBH := Lib.hid (show Below (w.heap.size + 1) w1 ((z2.setCell ⟨B, 16, none⟩ (.bool true)).setCell ⟨gh2, p, none⟩ (.int .i64 0)) from (HB6.out.setCell HBB.out _).setCell HGB.out _)
                      go_roundw
                      case rel => exact ⟨k + 1, sn, by go_num, Lib.hid ⟨HLT.out, H60.out, HLOOP.out, HWN.out, HBN.out⟩, Lib.hid (by rw [HR.out]; exact ⟨_, _, _, _, _, HMG.out.unframe hFx HG.out⟩), HBH⟩
                      case measure => have h9 := HLT.out; simp [RowKit.intOf]; omega
                    · have hn' : decide (hv < 0) = false := decide_eq_false hn
                      have HR := Lib.hid (show sn = s1 from by rw [HRA.out, if_neg (fun h => hn h.2)])
                      clear ht
                      go_wp2_with fail
                      go_roundw
                      case rel => exact ⟨k + 1, sn, by go_num, Lib.hid ⟨HLT.out, H60.out, HLOOP.out, HWN.out, HBN.out⟩, Lib.hid (by rw [HR.out]; exact ⟨_, _, _, _, _, HM5.out.unframe hFx HG.out⟩), HB5⟩
                      case measure => have h9 := HLT.out; simp [RowKit.intOf]; omega
                · skip
                  as_aux_lemma =>
                   have ct := (show w5.cell? ⟨B, 17, none⟩ = some (.bool s1.t1) from (HM5.out.cells 17 (show 17 < 19 by decide)).1)
                   have HRA := Lib.hid (show sn = if s1.t1 = false ∧ hv < 0 then { (addM s1 p (evS 5 1 s1.g1)) with t1 := true, hol := s1.hol.set p 1 } else s1 from HRA.out)
                   cases ht : s1.t1 with
                   | true =>
                    rw [ht] at ct
                    have HR := Lib.hid (show sn = s1 from by rw [HRA.out, if_neg (fun h => by rw [ht] at h; exact absurd h.1 (by decide))])
                    clear ht
                    go_wp2_with fail
                    go_roundw
                    case rel => exact ⟨k + 1, sn, by go_num, Lib.hid ⟨HLT.out, H60.out, HLOOP.out, HWN.out, HBN.out⟩, Lib.hid (by rw [HR.out]; exact ⟨_, _, _, _, _, HM5.out.unframe hFx HG.out⟩), HB5⟩
                    case measure => have h9 := HLT.out; simp [RowKit.intOf]; omega
                   | false =>
                    rw [ht] at ct
                    by_cases hn : hv < 0
                    · have hn' : decide (hv < 0) = true := decide_eq_true hn
                      have HR := Lib.hid (show sn = { (addM s1 p (evS 5 1 s1.g1)) with t1 := true, hol := s1.hol.set p 1 } from by rw [HRA.out, if_pos ⟨ht, hn⟩])
                      have cg := (show w5.cell? ⟨B, 14, none⟩ = some (.int .i64 s1.g1) from (HM5.out.cells 14 (show 14 < 19 by decide)).1)
                      clear ht HRA
                      go_wp2_with fail
                      refine (addR_any (w.heap.size + 1) B G s1 p (⟨0, 0, 0, 5, 0, 0, 1, s1.g1, 0, 0, 0, 0⟩ : Ev) hp5 (HBD5.out.small (by omega)) _ ⟨_, _, _, _, _, HM5.out⟩).mono ?_
                      rintro e z2 ⟨rfl, hz, hb⟩
                      have HB6 := Lib.hid (HB5.out.trans hb)
                      have HR := Lib.hid (show sn = { (addM s1 p (⟨0, 0, 0, 5, 0, 0, 1, s1.g1, 0, 0, 0, 0⟩ : Ev)) with t1 := true, hol := s1.hol.set p 1 } from HR.out)
                      have HS2 := Lib.hid (show (addM s1 p (⟨0, 0, 0, 5, 0, 0, 1, s1.g1, 0, 0, 0, 0⟩ : Ev)).hol = s1.hol from rfl)
                      generalize addM s1 p (⟨0, 0, 0, 5, 0, 0, 1, s1.g1, 0, 0, 0, 0⟩ : Ev) = s2 at *
                      obtain ⟨vo2, va2, vp2, vq2, vh2, hm2⟩ := hz
                      have hph : p < s2.hol.length := by rw [HS2.out, HW5.out.h]; exact hp5
                      obtain ⟨gh2, ch2, evh2, _, hgh2, hih2, hch2⟩ := hm2.rh.int8 p hph
                      subst evh2
                      have HM6 := Lib.hid hm2
                      obtain ⟨d1, _⟩ := hch2 z2 _ (Below.refl _ z2) hgh2
                      have HGB := Lib.hid (show w.heap.size + 1 ≤ gh2 from (hm2.rh.ge gh2 rfl).1)
                      have hgb : ¬ gh2 = B := fun e => HM6.out.ap.ne 0 5 B rfl (by decide) rfl (by rw [e]; rfl)
                      have hgb2 : ¬ B = gh2 := fun e => hgb e.symm
                      have e11 : z2.cell? ⟨B, 11, none⟩ = some (.slice (some ⟨gh2, 0, none⟩) s2.hol.length ch2) := (hm2.cells 11 (show 11 < 19 by decide)).1
                      have e16 : z2.cell? ⟨B, 17, none⟩ = some (.bool s2.t1) := (hm2.cells 17 (show 17 < 19 by decide)).1
                      have e17 := (hm2.cells 17 (show 17 < 19 by decide)).2
                      have hx1 := hm2.rh.cell p hph 0 (by decide)
                      rw [show KI.n * p + 0 = p by show 1 * p + 0 = p; omega] at hx1
                      obtain ⟨hx2, hx3⟩ := hx1
                      have HPH := Lib.hid hph
                      clear hm2 hb hch2 cg c11 x1 hih ct HM5 HB5 hx2 hph hn hn' HD5
                      go_wp2_with fail
                      have HMG := Lib.hid (show MkP ((z2.setCell ⟨B, 17, none⟩ (.bool true)).setCell ⟨gh2, p, none⟩ (.int .i64 1)) (w.heap.size + 1) B G { s2 with t1 := true, hol := s1.hol.set p 1 } _ _ _ _ _ from by rw [← HS2.out]; exact (HM6.out.put 17 _ { s2 with t1 := true } rfl rfl rfl rfl rfl rfl).set_hol (x := 1) p HPH.out)
                      have HBH := Lib.hid (show Below (w.heap.size + 1) w1 ((z2.setCell ⟨B, 17, none⟩ (.bool true)).setCell ⟨gh2, p, none⟩ (.int .i64 1)) from (HB6.out.setCell HBB.out _).setCell HGB.out _)
                      go_roundw
                      case rel => exact ⟨k + 1, sn, by go_num, Lib.hid ⟨HLT.out, H60.out, HLOOP.out, HWN.out, HBN.out⟩, Lib.hid (by rw [HR.out]; exact ⟨_, _, _, _, _, HMG.out.unframe hFx HG.out⟩), HBH⟩
                      case measure => have h9 := HLT.out; simp [RowKit.intOf]; omega
                    · have hn' : decide (hv < 0) = false := decide_eq_false hn
                      have HR := Lib.hid (show sn = s1 from by rw [HRA.out, if_neg (fun h => hn h.2)])
                      clear ht
                      go_wp2_with fail
                      go_roundw
                      case rel => exact ⟨k + 1, sn, by go_num, Lib.hid ⟨HLT.out, H60.out, HLOOP.out, HWN.out, HBN.out⟩, Lib.hid (by rw [HR.out]; exact ⟨_, _, _, _, _, HM5.out.unframe hFx HG.out⟩), HB5⟩
                      case measure => have h9 := HLT.out; simp [RowKit.intOf]; omega
                · skip
                  as_aux_lemma =>
                   have ct := (show w5.cell? ⟨B, 18, none⟩ = some (.bool s1.t2) from (HM5.out.cells 18 (show 18 < 19 by decide)).1)
                   have HRA := Lib.hid (show sn = if s1.t2 = false ∧ hv < 0 then { (addM s1 p (evS 5 2 s1.g2)) with t2 := true, hol := s1.hol.set p 2 } else s1 from HRA.out)
                   cases ht : s1.t2 with
                   | true =>
                    rw [ht] at ct
                    have HR := Lib.hid (show sn = s1 from by rw [HRA.out, if_neg (fun h => by rw [ht] at h; exact absurd h.1 (by decide))])
                    clear ht
                    go_wp2_with fail
                    go_roundw
                    case rel => exact ⟨k + 1, sn, by go_num, Lib.hid ⟨HLT.out, H60.out, HLOOP.out, HWN.out, HBN.out⟩, Lib.hid (by rw [HR.out]; exact ⟨_, _, _, _, _, HM5.out.unframe hFx HG.out⟩), HB5⟩
                    case measure => have h9 := HLT.out; simp [RowKit.intOf]; omega
                   | false =>
                    rw [ht] at ct
                    by_cases hn : hv < 0
                    · have hn' : decide (hv < 0) = true := decide_eq_true hn
                      have HR := Lib.hid (show sn = { (addM s1 p (evS 5 2 s1.g2)) with t2 := true, hol := s1.hol.set p 2 } from by rw [HRA.out, if_pos ⟨ht, hn⟩])
                      have cg := (show w5.cell? ⟨B, 15, none⟩ = some (.int .i64 s1.g2) from (HM5.out.cells 15 (show 15 < 19 by decide)).1)
                      clear ht HRA
                      go_wp2_with fail
                      refine (addR_any (w.heap.size + 1) B G s1 p (⟨0, 0, 0, 5, 0, 0, 2, s1.g2, 0, 0, 0, 0⟩ : Ev) hp5 (HBD5.out.small (by omega)) _ ⟨_, _, _, _, _, HM5.out⟩).mono ?_
                      rintro e z2 ⟨rfl, hz, hb⟩
                      have HB6 := Lib.hid (HB5.out.trans hb)
                      have HR := Lib.hid (show sn = { (addM s1 p (⟨0, 0, 0, 5, 0, 0, 2, s1.g2, 0, 0, 0, 0⟩ : Ev)) with t2 := true, hol := s1.hol.set p 2 } from HR.out)
                      have HS2 := Lib.hid (show (addM s1 p (⟨0, 0, 0, 5, 0, 0, 2, s1.g2, 0, 0, 0, 0⟩ : Ev)).hol = s1.hol from rfl)
                      generalize addM s1 p (⟨0, 0, 0, 5, 0, 0, 2, s1.g2, 0, 0, 0, 0⟩ : Ev) = s2 at *
                      obtain ⟨vo2, va2, vp2, vq2, vh2, hm2⟩ := hz
                      have hph : p < s2.hol.length := by rw [HS2.out, HW5.out.h]; exact hp5
                      obtain ⟨gh2, ch2, evh2, _, hgh2, hih2, hch2⟩ := hm2.rh.int8 p hph
                      subst evh2
                      have HM6 := Lib.hid hm2
                      obtain ⟨d1, _⟩ := hch2 z2 _ (Below.refl _ z2) hgh2
                      have HGB := Lib.hid (show w.heap.size + 1 ≤ gh2 from (hm2.rh.ge gh2 rfl).1)
                      have hgb : ¬ gh2 = B := fun e => HM6.out.ap.ne 0 5 B rfl (by decide) rfl (by rw [e]; rfl)
                      have hgb2 : ¬ B = gh2 := fun e => hgb e.symm
                      have e11 : z2.cell? ⟨B, 11, none⟩ = some (.slice (some ⟨gh2, 0, none⟩) s2.hol.length ch2) := (hm2.cells 11 (show 11 < 19 by decide)).1
                      have e16 : z2.cell? ⟨B, 18, none⟩ = some (.bool s2.t2) := (hm2.cells 18 (show 18 < 19 by decide)).1
                      have e17 := (hm2.cells 18 (show 18 < 19 by decide)).2
                      have hx1 := hm2.rh.cell p hph 0 (by decide)
                      rw [show KI.n * p + 0 = p by show 1 * p + 0 = p; omega] at hx1
                      obtain ⟨hx2, hx3⟩ := hx1
                      have HPH := Lib.hid hph
                      clear hm2 hb hch2 cg c11 x1 hih ct HM5 HB5 hx2 hph hn hn' HD5
                      go_wp2_with fail
                      have HMG := Lib.hid (show MkP ((z2.setCell ⟨B, 18, none⟩ (.bool true)).setCell ⟨gh2, p, none⟩ (.int .i64 2)) (w.heap.size + 1) B G { s2 with t2 := true, hol := s1.hol.set p 2 } _ _ _ _ _ from by rw [← HS2.out]; exact (HM6.out.put 18 _ { s2 with t2 := true } rfl rfl rfl rfl rfl rfl).set_hol (x := 2) p HPH.out)
                      have HBH := Lib.hid (show Below (w.heap.size + 1) w1 ((z2.setCell ⟨B, 18, none⟩ (.bool true)).setCell ⟨gh2, p, none⟩ (.int .i64 2)) from (HB6.out.setCell HBB.out _).setCell HGB.out _)
                      go_roundw
                      case rel => exact ⟨k + 1, sn, by go_num, Lib.hid ⟨HLT.out, H60.out, HLOOP.out, HWN.out, HBN.out⟩, Lib.hid (by rw [HR.out]; exact ⟨_, _, _, _, _, HMG.out.unframe hFx HG.out⟩), HBH⟩
                      case measure => have h9 := HLT.out; simp [RowKit.intOf]; omega
                    · have hn' : decide (hv < 0) = false := decide_eq_false hn
                      have HR := Lib.hid (show sn = s1 from by rw [HRA.out, if_neg (fun h => hn h.2)])
                      clear ht
                      go_wp2_with fail
                      go_roundw
                      case rel => exact ⟨k + 1, sn, by go_num, Lib.hid ⟨HLT.out, H60.out, HLOOP.out, HWN.out, HBN.out⟩, Lib.hid (by rw [HR.out]; exact ⟨_, _, _, _, _, HM5.out.unframe hFx HG.out⟩), HB5⟩
                      case measure => have h9 := HLT.out; simp [RowKit.intOf]; omega
              · skip
                have HR := Lib.hid (show sn = relM s1 p from HSQ.out)
                clear HSQ y2
                go_wp2_with fail
                refine (releaseR_any (w.heap.size + 1) B G s1 p (by rw [HW5.out.h]; exact hp5) hp5 (HW5.out.hh p) (HBD5.out.small (by omega)) _ ⟨_, _, _, _, _, HM5.out⟩).mono ?_
                rintro e z2 ⟨rfl, hz, hb⟩
                have HB6 := Lib.hid (HB5.out.trans hb)
                obtain ⟨vo2, va2, vp2, vq2, vh2, hm2⟩ := hz
                have HM6 := Lib.hid hm2
                clear hm2 hb HM5 HB5 HD5
                go_wp2_with fail
                go_roundw
                case rel => exact ⟨k + 1, sn, by go_num, Lib.hid ⟨HLT.out, H60.out, HLOOP.out, HWN.out, HBN.out⟩, Lib.hid (by rw [HR.out]; exact ⟨_, _, _, _, _, HM6.out.unframe hFx HG.out⟩), HB6⟩
                case measure => have h9 := HLT.out; simp [RowKit.intOf]; omega
              · skip
                have HSQ := Lib.hid (show sn = if 0 < p then endM F.lat s1 p (decide (dv.c.tmod 2 = 0)) else s1 from HSQ.out)
                by_cases hp0 : 0 < p
                · have hp0' : decide ((p : Int) > 0) = true := decide_eq_true (by omega)
                  have HR := Lib.hid (show sn = endM F.lat s1 p (decide (dv.c.tmod 2 = 0)) from by rw [HSQ.out, if_pos hp0])
                  have hm0 := Int.tmod_lt_of_pos dv.c (b := 2) (by decide)
                  have hm1 := Int.lt_tmod_of_pos dv.c (b := 2) (by decide)
                  have hwm : IntKind.i64.wrap (dv.c.tmod 2) = dv.c.tmod 2 := wrapq8 (by omega)
                  clear HSQ hm0 hm1
                  go_wp2_with fail
                  refine (endR_any (w.heap.size + 1) B G s1 p (dv.c.tmod 2 == 0) (by rw [HW5.out.h]; exact hp5) hp5 (by rw [HW5.out.p]; exact hp5) (by rw [HW5.out.o]; exact hp5) (HW5.out.hh p) (HW5.out.hp p) HW5.out.o (by rw [HGX.out.2.2.1]; exact HF.out.2.2.1) (by rw [HGX.out.2.2.1]; exact HF.out.2.2.2) (1 + 8 * k + 1) (by omega) HBD5.out _ ⟨_, _, _, _, _, HM5.out⟩).mono ?_
                  rintro e z2 ⟨rfl, hz, hb⟩
                  rw [HGX.out.2.2.1, beq_dec8] at hz
                  have HB6 := Lib.hid (HB5.out.trans hb)
                  obtain ⟨vo2, va2, vp2, vq2, vh2, hm2⟩ := hz
                  have HM6 := Lib.hid hm2
                  clear hm2 hb HM5 HB5 HD5 y2
                  go_wp2_with fail
                  go_roundw
                  case rel => exact ⟨k + 1, sn, by go_num, Lib.hid ⟨HLT.out, H60.out, HLOOP.out, HWN.out, HBN.out⟩, Lib.hid (by rw [HR.out]; exact ⟨_, _, _, _, _, HM6.out.unframe hFx HG.out⟩), HB6⟩
                  case measure => have h9 := HLT.out; simp [RowKit.intOf]; omega
                · have hp0' : decide ((p : Int) > 0) = false := decide_eq_false (by omega)
                  have HR := Lib.hid (show sn = s1 from by rw [HSQ.out, if_neg hp0])
                  clear HSQ
                  go_wp2_with fail
                  go_roundw
                  case rel => exact ⟨k + 1, sn, by go_num, Lib.hid ⟨HLT.out, H60.out, HLOOP.out, HWN.out, HBN.out⟩, Lib.hid (by rw [HR.out]; exact ⟨_, _, _, _, _, HM5.out.unframe hFx HG.out⟩), HB5⟩
                  case measure => have h9 := HLT.out; simp [RowKit.intOf]; omega
   | false =>
    as_aux_lemma =>
     have HRN := Lib.hid (show s = runM F.lat F.n1 F.n2 id at_ pe l from by
      have hno := of_decide_eq_false hcond.symm
      rw [← HX.out.2.2.1]
      cases hdr : l.drop k with
      | nil => rfl
      | cons d r =>
       have hlt : k < l.length := by
        rcases Nat.lt_or_ge k l.length with h | h
        · exact h
        · rw [List.drop_eq_nil_of_le h] at hdr; cases hdr
       unfold loopM
       rw [if_neg (fun h => hno ⟨hlt, h.1, h.2⟩)])
     have HWS := Lib.hid HX.out.2.2.2.1
     have HBS := Lib.hid (show s.bd 481 from HX.out.2.2.2.2.mono (by omega))
     obtain ⟨ada, cpa, eva, _⟩ := HM.out.ra.form
     subst eva
     have c8 : wc.cell? ⟨B, 8, none⟩ = some (.slice ada s.ags.length cpa) := (HM.out.cells 8 (show 8 < 19 by decide)).1
     have hl4 := HWS.out.l4
     have hwl : IntKind.i64.wrap ((s.ags.length : Int) - 1) = (s.ags.length : Int) - 1 := wrapq8 (by omega)
     clear hcond HX
     go_wp2_with fail
     clear c8 hwl
     have HM := Lib.hid (show MkAt wc (w.heap.size + 1) B F s from ⟨_, _, _, _, _, HM.out⟩)
     have HMADE := Lib.hid (show madeN F.lat F.n1 F.n2 id at_ pe l = (lastM F.lat id s.ags.length s).out from by rw [HRN.out]; rfl)
     clear HRN
     go_loopw [16] (fun i wr => ∃ (j : Nat) (t : Mk), i = .int .i64 ((j : Int) - 1) ∧ Hid (j ≤ t.ags.length ∧ lastM F.lat id j t = lastM F.lat id s.ags.length s ∧ Wf t ∧ t.bd (481 + 8 * (4 - j)) ∧ j ≤ 4) ∧ Hid (MkAt wr (w.heap.size + 1) B F t) ∧ Hid (Below (w.heap.size + 1) w1 wr)) (fun i _ => (RowKit.intOf i + 1).toNat)
     case atStart => exact ⟨s.ags.length, s, rfl, Lib.hid ⟨Nat.le_refl _, rfl, HWS.out, HBS.out.mono (by omega), hl4⟩, HM, HB⟩
     case round =>
      clear HM HB HBS HWS
      obtain ⟨j, t, rfl, HX, HM, HB⟩ := hrel
      obtain ⟨vo, va, vp, vq, vh, hm⟩ := HM.out
      have HM := Lib.hid hm
      have hj4 := HX.out.2.2.2.2
      cases j with
      | zero =>
       obtain ⟨ad7, cp7, ev7, hn7, hr7⟩ := hm.ro.rn0
       subst ev7
       have c7 : wr.cell? ⟨B, 7, none⟩ = some (.slice ad7 t.out.length cp7) := (hm.cells 7 (show 7 < 19 by decide)).1
       have HP := Lib.hid (show HpsPost w (madeN F.lat F.n1 F.n2 id at_ pe l) (.returned (.slice ad7 t.out.length cp7)) wr from by
        rw [HMADE.out, ← HX.out.2.1]
        exact ⟨ad7, cp7, rfl, hn7, hr7.base (Nat.le_succ _), below_up9 HB1.out HB.out⟩)
       clear hm hn7 hr7
       go_wp2_with fail
       go_ret
       exact HP.out
      | succ m =>
       have hmt : m < t.ags.length := HX.out.1
       have em : (((m + 1 : Nat) : Int) - 1) = (m : Int) := by omega
       rw [em]
       have HW := Lib.hid HX.out.2.2.1
       have HBD := Lib.hid (show t.bd (481 + 8 * (4 - (m + 1))) from HX.out.2.2.2.1)
       have HLA := Lib.hid (show lastM F.lat id m (if t.opn.getD m false = true then endM F.lat { t with now := t.now + 1000 * pick8 (id + (m : Nat)) 1000 } m (decide (0 < (id + (m : Nat)).tmod 3)) else t) = lastM F.lat id s.ags.length s from HX.out.2.1)
       obtain ⟨gq, cq, evq, _, hgq, hiq, hcq⟩ := hm.rq.bool8 m (by rw [HW.out.o]; exact hmt)
       subst evq
       have HM := Lib.hid hm
       have c10 : wr.cell? ⟨B, 10, none⟩ = some (.slice (some ⟨gq, 0, none⟩) t.opn.length cq) := (hm.cells 10 (show 10 < 19 by decide)).1
       obtain ⟨o1, _⟩ := hcq wr _ (Below.refl _ wr) hgq
       have hwm : IntKind.i64.wrap ((m : Int) - 1) = (m : Int) - 1 := wrapq8 (by omega)
       have hid := HID.out
       clear hm HX hcq em
       cases hop : t.opn.getD m false with
       | false =>
        rw [hop] at o1
        have HLB := Lib.hid (show lastM F.lat id m t = lastM F.lat id s.ags.length s from by have := HLA.out; rw [if_neg (by rw [hop]; decide)] at this; exact this)
        have HMT := Lib.hid hmt
        clear hop HLA hmt
        go_wp2_with fail
        go_roundw
        case rel => exact ⟨m, t, by go_num, Lib.hid ⟨Nat.le_of_lt HMT.out, HLB.out, HW.out, HBD.out.mono (by omega), by omega⟩, Lib.hid ⟨_, _, _, _, _, HM.out⟩, HB⟩
        case measure => first | (simp [RowKit.intOf]; done) | (simp [RowKit.intOf]; omega)
       | true =>
        rw [hop] at o1
        have HLB := Lib.hid (show lastM F.lat id m (endM F.lat { t with now := t.now + 1000 * pick8 (id + (m : Nat)) 1000 } m (decide (0 < (id + (m : Nat)).tmod 3))) = lastM F.lat id s.ags.length s from by have := HLA.out; rw [if_pos hop] at this; exact this)
        clear hop HLA
        have hnow := HBD.out.2.1
        have HPS := Lib.hid (fun W => pickS8 (c := id + (m : Int)) (n := 1000) (by omega) (by omega) (by decide) (by decide) W)
        have q0 := pick8_lo (c := id + (m : Int)) (n := 1000) (by decide)
        have q1 := pick8_hi (c := id + (m : Int)) (n := 1000) (by decide)
        have ws1 : IntKind.i64.wrap (id + (m : Int)) = id + (m : Int) := wrapq8 (by omega)
        have ws2 : IntKind.i64.wrap (1000 * pick8 (id + (m : Int)) 1000) = 1000 * pick8 (id + (m : Int)) 1000 := wrapq8 (by omega)
        have ws3 : IntKind.i64.wrap (t.now + 1000 * pick8 (id + (m : Int)) 1000) = t.now + 1000 * pick8 (id + (m : Int)) 1000 := wrapq8 (by omega)
        have HBD2 := Lib.hid (HBD.out.later (1000 * pick8 (id + (m : Int)) 1000) (by omega) (by omega))
        have HMT := Lib.hid hmt
        clear hnow q0 q1 hmt
        go_upto_region 37 with fail
        refine wp_region_noPanic ?_
        refine wp_region_Kp (C := Grew wr) [0] [11, 12, 13] 10 #[true, false, false, false, false, false, false, false, false, false, false, false, false, false] (by kernel_rfl) (by kernel_rfl) (by kernel_rfl) (by kernel_rfl) (grew0 _) (fun _ _ _ _ _ h => h) ?_
        simp only [pickOps, List.filterMap_cons, List.filterMap_nil, List.getElem?_toArray, List.getElem?_cons_succ, List.getElem?_cons_zero]
        refine wpPure_step (fun K hK => ?_)
        apply Exists.intro
        refine ⟨⟨by rfl, fun wx => ?_⟩, hK _ ?_⟩
        · (go_simp; try (first | (with_reducible rfl) | (with_reducible exact ⟨rfl, rfl⟩)))
        clear hK K
        try simp only [Act.put, List.setIfInBounds_toArray, List.set_cons_succ, List.set_cons_zero]
        refine wpPure_nil ?_
        intro wx hwx
        have HBX := Lib.hid hwx.below
        have e1 : wx.cell? ⟨B, 6, none⟩ = some (.int .i64 t.now) := (HM.out.cells.below HBX.out 6 (show 6 < 19 by decide)).1
        have e2 := (HM.out.cells.below HBX.out 6 (show 6 < 19 by decide)).2
        refine wpAnyK_ex (i := 1) rfl (by kernel_rfl) (listed' := #[true, true, false, false, false, false, false, false, false, false, false, false, false, false]) rfl (fun _ _ _ _ _ h => h) hwx ?_
        apply Exists.intro
        refine ⟨⟨by kernel_rfl, fun wy hw => ?_⟩, ?_⟩
        · (have bw := hw.below; go_simp; try (first | (with_reducible rfl) | (with_reducible exact ⟨rfl, rfl⟩)))
        try simp only [Act.put, List.getElem_toArray, List.getElem_cons_succ, List.getElem_cons_zero, List.setIfInBounds_toArray, List.set_cons_succ, List.set_cons_zero]
        refine wpAnyK_ex (i := 2) rfl (by kernel_rfl) (listed' := #[true, true, true, false, false, false, false, false, false, false, false, false, false, false]) rfl (fun _ _ _ _ _ h => h) hwx ?_
        apply Exists.intro
        refine ⟨⟨by kernel_rfl, fun wy hw => ?_⟩, ?_⟩
        · (have bw := hw.below; go_simp; try (first | (with_reducible rfl) | (with_reducible exact ⟨rfl, rfl⟩)))
        try simp only [Act.put, List.getElem_toArray, List.getElem_cons_succ, List.getElem_cons_zero, List.setIfInBounds_toArray, List.set_cons_succ, List.set_cons_zero]
        refine wpAnyK_ex (i := 3) rfl (by kernel_rfl) (listed' := #[true, true, true, true, false, false, false, false, false, false, false, false, false, false]) rfl (fun _ _ _ _ _ h => h) hwx ?_
        apply Exists.intro
        refine ⟨⟨by kernel_rfl, fun wy hw => ?_⟩, ?_⟩
        · (have bw := hw.below; go_simp; try (first | (with_reducible rfl) | (with_reducible exact ⟨rfl, rfl⟩)))
        try simp only [Act.put, List.getElem_toArray, List.getElem_cons_succ, List.getElem_cons_zero, List.setIfInBounds_toArray, List.set_cons_succ, List.set_cons_zero]
        refine wpAnyK_ex (i := 4) rfl (by kernel_rfl) (listed' := #[true, true, true, true, true, false, false, false, false, false, false, false, false, false]) rfl (fun _ _ _ _ _ h => h) hwx ?_
        apply Exists.intro
        refine ⟨⟨by kernel_rfl, fun wy hw => ?_⟩, ?_⟩
        · (have bw := hw.below; have fx := (show wy.cell? ⟨B, 6, none⟩ = some (.int .i64 t.now) from (HM.out.cells.below bw 6 (show 6 < 19 by decide)).1); go_simp; try (first | (with_reducible rfl) | (with_reducible exact ⟨rfl, rfl⟩)))
        try simp only [Act.put, List.getElem_toArray, List.getElem_cons_succ, List.getElem_cons_zero, List.setIfInBounds_toArray, List.set_cons_succ, List.set_cons_zero]
        refine wpAnyK_ex (i := 5) rfl (by kernel_rfl) (listed' := #[true, true, true, true, true, true, false, false, false, false, false, false, false, false]) rfl (fun _ _ _ _ _ h => h) hwx ?_
        apply Exists.intro
        refine ⟨⟨by kernel_rfl, fun wy hw => ?_⟩, ?_⟩
        · (have bw := hw.below; go_simp; try (first | (with_reducible rfl) | (with_reducible exact ⟨rfl, rfl⟩)))
        try simp only [Act.put, List.getElem_toArray, List.getElem_cons_succ, List.getElem_cons_zero, List.setIfInBounds_toArray, List.set_cons_succ, List.set_cons_zero]
        refine wpAnyK_ex (i := 6) rfl (by kernel_rfl) (listed' := #[true, true, true, true, true, true, true, false, false, false, false, false, false, false]) rfl (fun _ _ _ _ _ h => h) hwx ?_
        apply Exists.intro
        refine ⟨⟨by kernel_rfl, fun wy hw => ?_⟩, ?_⟩
        · (have bw := hw.below; go_simp; try (first | (with_reducible rfl) | (with_reducible exact ⟨rfl, rfl⟩)))
        try simp only [Act.put, List.getElem_toArray, List.getElem_cons_succ, List.getElem_cons_zero, List.setIfInBounds_toArray, List.set_cons_succ, List.set_cons_zero]
        refine wpAnyK_ex (i := 7) rfl (by kernel_rfl) (listed' := #[true, true, true, true, true, true, true, true, false, false, false, false, false, false]) rfl (fun _ _ _ _ _ h => h) hwx ?_
        apply Exists.intro
        refine ⟨⟨by kernel_rfl, fun wy hw => ?_⟩, ?_⟩
        · (have bw := hw.below; go_simp; try (first | (with_reducible rfl) | (with_reducible exact ⟨rfl, rfl⟩)))
        try simp only [Act.put, List.getElem_toArray, List.getElem_cons_succ, List.getElem_cons_zero, List.setIfInBounds_toArray, List.set_cons_succ, List.set_cons_zero]
        refine wpAnyK_callx (i := 8) rfl (by kernel_rfl) (listed' := #[true, true, true, true, true, true, true, true, true, false, false, false, false, false]) rfl (fun _ _ _ _ _ h => h) hwx ?_
        apply Exists.intro
        apply Exists.intro
        apply Exists.intro
        refine ⟨⟨by kernel_rfl, fun wy hw => ?_, fun wy hw => ?_⟩, ?_⟩
        · (have bw := hw.below; go_simp; try (first | (with_reducible rfl) | (with_reducible exact ⟨rfl, rfl⟩)))
        · (exact HPS.out _)
        try simp only [Act.put, List.getElem_toArray, List.getElem_cons_succ, List.getElem_cons_zero, List.setIfInBounds_toArray, List.set_cons_succ, List.set_cons_zero]
        refine wpAnyK_ex (i := 9) rfl (by kernel_rfl) (listed' := #[true, true, true, true, true, true, true, true, true, true, false, false, false, false]) rfl (fun _ _ _ _ _ h => h) hwx ?_
        apply Exists.intro
        refine ⟨⟨by kernel_rfl, fun wy hw => ?_⟩, ?_⟩
        · (have bw := hw.below; go_simp; try (first | (with_reducible rfl) | (with_reducible exact ⟨rfl, rfl⟩)))
        try simp only [Act.put, List.getElem_toArray, List.getElem_cons_succ, List.getElem_cons_zero, List.setIfInBounds_toArray, List.set_cons_succ, List.set_cons_zero]
        refine wpAnyK_ex (i := 10) rfl (by kernel_rfl) (listed' := #[true, true, true, true, true, true, true, true, true, true, true, false, false, false]) rfl (fun _ _ _ _ _ h => h) hwx ?_
        apply Exists.intro
        refine ⟨⟨by kernel_rfl, fun wy hw => ?_⟩, ?_⟩
        · (have bw := hw.below; go_simp; try (first | (with_reducible rfl) | (with_reducible exact ⟨rfl, rfl⟩)))
        try simp only [Act.put, List.getElem_toArray, List.getElem_cons_succ, List.getElem_cons_zero, List.setIfInBounds_toArray, List.set_cons_succ, List.set_cons_zero]
        refine wpAnyK_end (by kernel_rfl) ?_
        try simp only [pickOps, List.filterMap_cons, List.filterMap_nil, List.getElem?_toArray, List.getElem?_cons_succ, List.getElem?_cons_zero]
        clear hwx
        go_wp2_with fail
        refine NoPanic.normal ?_
        go_upto_region 38 with fail
        obtain ⟨w5, hw5⟩ : ∃ w5, w5 = wx.setCell ⟨B, 6, none⟩ (.int .i64 (t.now + 1000 * pick8 (id + (m : Int)) 1000)) := ⟨_, rfl⟩
        rw [← hw5]
        obtain ⟨t1, ht1⟩ : ∃ t1 : Mk, t1 = { t with now := t.now + 1000 * pick8 (id + (m : Nat)) 1000 } := ⟨_, rfl⟩
        have HM5 := Lib.hid (show MkP w5 (w.heap.size + 1) B F t1 _ _ _ _ _ by rw [hw5, ht1]; exact (HM.out.up HBX.out (Nat.le_refl _)).put 6 _ { t with now := t.now + 1000 * pick8 (id + (m : Nat)) 1000 } rfl rfl rfl rfl rfl rfl)
        have HB5 := Lib.hid (show Below (w.heap.size + 1) w1 w5 by rw [hw5]; exact (HB.out.trans (HBX.out.mono (by have := HM.out.hb; have := HM.out.lt; omega))).setCell HM.out.hb _)
        have HW1 := Lib.hid (show Wf t1 from by rw [ht1]; exact HW.out.later _)
        have HBD3 := Lib.hid (show t1.bd (481 + 8 * (4 - (m + 1)) + 1) from by rw [ht1]; exact HBD2.out)
        have HM1 := Lib.hid (show m < t1.ags.length from by rw [ht1]; exact HMT.out)
        have HLB := Lib.hid (show lastM F.lat id m (endM F.lat t1 m (decide (0 < (id + (m : Nat)).tmod 3))) = lastM F.lat id s.ags.length s from by rw [ht1]; exact HLB.out)
        have hm0 := Int.tmod_lt_of_pos (id + (m : Int)) (b := 3) (by decide)
        have hm1 := Int.lt_tmod_of_pos (id + (m : Int)) (b := 3) (by decide)
        have hwz : IntKind.i64.wrap ((id + (m : Int)).tmod 3) = (id + (m : Int)).tmod 3 := wrapq8 (by omega)
        obtain ⟨rp, hrp⟩ : ∃ rp : Bool, rp = decide (0 < (id + (m : Int)).tmod 3) := ⟨_, rfl⟩
        have hrp2 : decide (0 < (id + (m : Int)) % 3) = rp := by rw [← Int.tmod_eq_emod_of_nonneg (show 0 ≤ id + (m : Int) by omega)]; exact hrp.symm
        have HLB := Lib.hid (show lastM F.lat id m (endM F.lat t1 m rp) = lastM F.lat id s.ags.length s from by rw [hrp]; exact HLB.out)
        clear hw5 ht1 e1 e2 HBX HM HB hm0 hm1 ws2 ws3 HBD2 HBD HPS HW HMT c10 o1 hiq hrp
        go_wp2_with fail
        refine (endR_any (w.heap.size + 1) B F t1 m rp (by rw [HW1.out.h]; exact HM1.out) HM1.out (by rw [HW1.out.p]; exact HM1.out) (by rw [HW1.out.o]; exact HM1.out) (HW1.out.hh m) (HW1.out.hp m) HW1.out.o HF.out.2.2.1 HF.out.2.2.2 _ (by omega) HBD3.out _ ⟨_, _, _, _, _, HM5.out⟩).mono ?_
        rintro e z2 ⟨rfl, hz, hb⟩
        have HB6 := Lib.hid (HB5.out.trans hb)
        have HMZ := Lib.hid hz
        have HWZ := Lib.hid (HW1.out.end_ F.lat m rp)
        have HBZ := Lib.hid (HBD3.out.end_ F.lat HF.out.2.2.1 HF.out.2.2.2 m rp)
        have HEA := Lib.hid (end_rows F.lat t1 m rp)
        clear hz hb HM5 HB5
        go_wp2_with fail
        go_roundw
        case rel => exact ⟨m, endM F.lat t1 m rp, by go_num, Lib.hid ⟨by rw [HEA.out]; exact Nat.le_of_lt HM1.out, HLB.out, HWZ.out, HBZ.out.mono (by omega), by omega⟩, HMZ, HB6⟩
        case measure => first | (simp [RowKit.intOf]; done) | (simp [RowKit.intOf]; omega)
end Go.Proofs.YtamefmojocegkaaDoor

namespace Go.Proofs.YtamefmojocegkaaDoor
open Go Go.Proofs Go.RowKit Go.Lib Go.Sort
def ExPost (w : World) (f : Fl) (l : List Hp) (e : Ending) (w' : World) : Prop := ∃ a1 c1 a2 c2 a3 c3 a4 c4 a5 c5, e = .returned (.tuple #[.agg #[.slice a1 f.dr.length c1, .int .i64 f.lat, .int .i64 f.lia, .slice a2 f.sv.length c2, .slice a3 f.tm.length c3], .slice a4 l.length c4, .slice a5 l.length c5]) ∧ RN KI w' w.heap.size a1 f.dr ∧ RN KI w' w.heap.size a2 f.sv ∧ RN KI w' w.heap.size a3 f.tm ∧ (a4 = none → c4 = 0) ∧ (a5 = none → c5 = 0) ∧ RN KE w' w.heap.size a4 (l.map (·.e)) ∧ RN KI w' w.heap.size a5 (l.map (·.t)) ∧ Below w.heap.size w w'
theorem le_sum8 : ∀ (l : List Nat) (i : Nat) (h : i < l.length), l[i] ≤ l.sum
 | x :: l, 0, _ => by simp
 | x :: l, i + 1, h => by
  have := le_sum8 l i (by simpa using h)
  simp only [List.getElem_cons_succ, List.sum_cons]
  omega
theorem cks_of {n : Int} {W : World} {base : Nat} {ad : Option Addr} {row : Option Nat} {lv : List Cv} (h1 : RN KK W base ad lv) (h2 : lv.length = (fleetN n).dr.length) (h3 : ∀ i (hi : i < lv.length), CkV W base row lv[i] (clkN (fleetN n) n i)) : CksOk W ad lv (cksN n) := by
 rw [fleetN_len] at h2
 refine ⟨by rw [cksN_len]; exact h2, h1.rl, fun i hi => ?_⟩
 rw [cksN_get n i (by omega)]
 obtain ⟨e1, e2, b, e3, _, e5, e6, e7, _, _⟩ := h3 i hi
 refine ⟨e1, e2, ?_, ?_⟩
 · rw [e3]
   exact (CellsAt.rnA e7 e5 e6).rl
 · have := (ckB_of (clkN_ok n i)).2.2.1
   unfold maxLen
   omega
theorem exampleR_any (n : Int) (ad : Option Addr) (c : Nat) (l : List D4) (h0 : -9223372036854775808 ≤ n) (h1 : n ≤ 9223372036854775807) (hl : l.length ≤ maxLen) (hdi : ∀ d ∈ l, d.fit) (w : World) (hI : RL KD w ad l) :
 Calls Tryd.prog 12 #[.int .i64 n, .slice ad l.length c] w (ExPost w (fleetN n) (exN n l)) := by
 have HI := Lib.hid hI
 have HDI := Lib.hid (And.intro hl hdi)
 have HFC := Lib.hid (fun W => fleetR_any n h0 h1 W)
 have HCC := Lib.hid (fun v W hf => clocksR_any v (fleetN n) n (by rw [fleetN_len]; have := agN_bd n; omega) h0 h1 W hf)
 have HPA := Lib.hid (fun W => pickS8 h0 h1 (n := 100) (by decide) (by decide) W)
 have HPB := Lib.hid (fun W => pickS8 h0 h1 (n := 1000000) (by decide) (by decide) W)
 have HPC := Lib.hid (fun W => pickS8 h0 h1 (n := 21) (by decide) (by decide) W)
 have HPD := Lib.hid (fun W => pickR8_any n 100 h0 h1 (by decide) (by decide) W)
 have a0 := pick8_lo (c := n) (n := 100) (by decide)
 have a1 := pick8_hi (c := n) (n := 100) (by decide)
 have b0 := pick8_lo (c := n) (n := 1000000) (by decide)
 have b1 := pick8_hi (c := n) (n := 1000000) (by decide)
 have c0 := pick8_lo (c := n) (n := 21) (by decide)
 have c1 := pick8_hi (c := n) (n := 21) (by decide)
 have hwb : IntKind.i64.wrap (2000000 + pick8 n 1000000) = 2000000 + pick8 n 1000000 := wrapq8 (by omega)
 have hwc : IntKind.i64.wrap (pick8 n 21 - 1) = pick8 n 21 - 1 := wrapq8 (by omega)
 have hag := agN_bd n
 obtain ⟨w0, V0, Z0, K0, B0⟩ := lay8 w [.slice none 0 0, .int .i64 0, .int .i64 0, .slice none 0 0, .slice none 0 0] 24
 have V0 := (show w.alloc (.cells #[.slice none 0 0, .int .i64 0, .int .i64 0, .slice none 0 0, .slice none 0 0] 24) = w0 from V0)
 go_enter Tryd.func12, Tryd.ntmps12
 go_upto_region 1 with fail
 have HK0 := Lib.hid K0
 have HB0 := Lib.hid B0
 have HZ0 := Lib.hid Z0
 clear V0 K0 B0 Z0 hI hdi
 go_wp2_with fail
 refine (HFC.out _).mono ?_
 rintro e w1 ⟨x1, k1, x2, k2, x3, k3, rfl, r1, r2, r3, hb1⟩
 have HR1 := Lib.hid (And.intro r1 (And.intro r2 r3))
 have HB1 := Lib.hid hb1
 clear r1 r2 r3 hb1 HFC
 obtain ⟨f, hf⟩ : ∃ f, f = fleetN n := ⟨_, rfl⟩
 have HF := Lib.hid hf
 have hN : f.dr.length = agN n := by rw [hf]; exact fleetN_len n
 have hS : f.sv.length = 6 := by rw [hf]; rfl
 have HN := Lib.hid (And.intro hN hS)
 clear hN hS
 rw [← hf] at HR1 HCC ⊢
 have hlat : f.lat = latT (pick8 n 4) := by rw [hf]; rfl
 have HLAT := Lib.hid (show 0 ≤ f.lat ∧ f.lat ≤ 1000000 from by rw [hlat]; exact latT_bd _)
 clear hf hlat
 obtain ⟨w2, V2, Z2, K2, B2⟩ := lay8 w1 [.slice x1 f.dr.length k1, .int .i64 f.lat, .int .i64 f.lia, .slice x2 f.sv.length k2, .slice x3 f.tm.length k3] 24
 have V2 := (show w1.alloc (.cells #[.slice x1 f.dr.length k1, .int .i64 f.lat, .int .i64 f.lia, .slice x2 f.sv.length k2, .slice x3 f.tm.length k3] 24) = w2 from V2)
 go_upto_region 2 with fail
 clear V2
 have HK2 := Lib.hid K2
 have HB2 := Lib.hid (show Below w.heap.size w w2 from HB0.out.trans ((HB1.out.trans (B2.mono HB1.out.size)).mono (by have := HZ0.out; omega)))
 have HFA := Lib.hid (show FlAt w2 (.agg #[.slice x1 f.dr.length k1, .int .i64 f.lat, .int .i64 f.lia, .slice x2 f.sv.length k2, .slice x3 f.tm.length k3]) f from ⟨x1, k1, x2, k2, x3, k3, rfl, HR1.out.1.rl.below B2, HR1.out.2.1.rl.below B2, HR1.out.2.2.rl.below B2⟩)
 have HRN := Lib.hid (show RN KI w2 (w.heap.size + 1) x1 f.dr ∧ RN KI w2 (w.heap.size + 1) x2 f.sv ∧ RN KI w2 (w.heap.size + 1) x3 f.tm from by
  have hz := HZ0.out
  exact ⟨(HR1.out.1.below B2).base (by omega), (HR1.out.2.1.below B2).base (by omega), (HR1.out.2.2.below B2).base (by omega)⟩)
 have HK02 := Lib.hid (show CellsAt w2 w.heap.size [.slice none 0 0, .int .i64 0, .int .i64 0, .slice none 0 0, .slice none 0 0] from (HK0.out.below HB1.out).below (B2.mono (Nat.le_refl _)))
 have HI2 := Lib.hid (HI.out.below HB2.out)
 have HZ12 := Lib.hid (show w.heap.size < w1.heap.size ∧ w1.heap.size < w2.heap.size from by have := HB1.out.size; have := HZ0.out; omega)
 clear K2 B2 Z2 HR1 HB1 HK0 HB0 HZ0
 generalize w1.heap.size = Q at *
 refine wp_region_noPanic ?_
 refine wp_region_Kx (C := NewR w2) [16] 16 #[false, false, false, false, false, false, false, false, false, false, false, false, false, false, false, false, false] (by kernel_rfl) (by kernel_rfl) (by kernel_rfl) (newR0 _) ?_
 intro wx hwx
 refine wpAnyK_ex (i := 0) rfl (by kernel_rfl) (listed' := #[true, false, false, false, false, false, false, false, false, false, false, false, false, false, false, false, false]) rfl (fun _ _ _ _ _ h => h) hwx ?_
 apply Exists.intro
 refine ⟨⟨by kernel_rfl, fun wy hw => ?_⟩, ?_⟩
 · (have bw := hw.below; have f0 := (show wy.cell? ⟨Q, 0, none⟩ = some (.slice x1 f.dr.length k1) from (HK2.out.below bw 0 (by simp)).1); have f1 := (show wy.cell? ⟨Q, 1, none⟩ = some (.int .i64 f.lat) from (HK2.out.below bw 1 (by simp)).1); have f2 := (show wy.cell? ⟨Q, 2, none⟩ = some (.int .i64 f.lia) from (HK2.out.below bw 2 (by simp)).1); have f3 := (show wy.cell? ⟨Q, 3, none⟩ = some (.slice x2 f.sv.length k2) from (HK2.out.below bw 3 (by simp)).1); have f4 := (show wy.cell? ⟨Q, 4, none⟩ = some (.slice x3 f.tm.length k3) from (HK2.out.below bw 4 (by simp)).1); go_simp; try (first | (with_reducible rfl) | (with_reducible exact ⟨rfl, rfl⟩)))
 try simp only [Act.put, List.getElem_toArray, List.getElem_cons_zero, List.setIfInBounds_toArray, List.set_cons_succ, List.set_cons_zero]
 refine wpAnyK_ex (i := 1) rfl (by kernel_rfl) (listed' := #[true, true, false, false, false, false, false, false, false, false, false, false, false, false, false, false, false]) rfl (fun _ _ _ _ _ h => h) hwx ?_
 apply Exists.intro
 refine ⟨⟨by kernel_rfl, fun wy hw => ?_⟩, ?_⟩
 · (have bw := hw.below; have f0 := (show wy.cell? ⟨Q, 0, none⟩ = some (.slice x1 f.dr.length k1) from (HK2.out.below bw 0 (by simp)).1); have f1 := (show wy.cell? ⟨Q, 1, none⟩ = some (.int .i64 f.lat) from (HK2.out.below bw 1 (by simp)).1); have f2 := (show wy.cell? ⟨Q, 2, none⟩ = some (.int .i64 f.lia) from (HK2.out.below bw 2 (by simp)).1); have f3 := (show wy.cell? ⟨Q, 3, none⟩ = some (.slice x2 f.sv.length k2) from (HK2.out.below bw 3 (by simp)).1); have f4 := (show wy.cell? ⟨Q, 4, none⟩ = some (.slice x3 f.tm.length k3) from (HK2.out.below bw 4 (by simp)).1); go_simp; try (first | (with_reducible rfl) | (with_reducible exact ⟨rfl, rfl⟩)))
 try simp only [Act.put, List.getElem_toArray, List.getElem_cons_succ, List.getElem_cons_zero, List.setIfInBounds_toArray, List.set_cons_succ, List.set_cons_zero]
 refine wpAnyK_ex (i := 2) rfl (by kernel_rfl) (listed' := #[true, true, true, false, false, false, false, false, false, false, false, false, false, false, false, false, false]) rfl (fun _ _ _ _ _ h => h) hwx ?_
 apply Exists.intro
 refine ⟨⟨by kernel_rfl, fun wy hw => ?_⟩, ?_⟩
 · (have bw := hw.below; go_simp; try (first | (with_reducible rfl) | (with_reducible exact ⟨rfl, rfl⟩)))
 try simp only [Act.put, List.getElem_toArray, List.getElem_cons_succ, List.getElem_cons_zero, List.setIfInBounds_toArray, List.set_cons_succ, List.set_cons_zero]
 refine wpAnyK_ex (i := 4) rfl (by kernel_rfl) (listed' := #[true, true, true, false, true, false, false, false, false, false, false, false, false, false, false, false, false]) rfl (fun _ _ _ _ _ h => h) hwx ?_
 apply Exists.intro
 refine ⟨⟨by kernel_rfl, fun wy hw => ?_⟩, ?_⟩
 · (have bw := hw.below; have f0 := (show wy.cell? ⟨Q, 0, none⟩ = some (.slice x1 f.dr.length k1) from (HK2.out.below bw 0 (by simp)).1); have f1 := (show wy.cell? ⟨Q, 1, none⟩ = some (.int .i64 f.lat) from (HK2.out.below bw 1 (by simp)).1); have f2 := (show wy.cell? ⟨Q, 2, none⟩ = some (.int .i64 f.lia) from (HK2.out.below bw 2 (by simp)).1); have f3 := (show wy.cell? ⟨Q, 3, none⟩ = some (.slice x2 f.sv.length k2) from (HK2.out.below bw 3 (by simp)).1); have f4 := (show wy.cell? ⟨Q, 4, none⟩ = some (.slice x3 f.tm.length k3) from (HK2.out.below bw 4 (by simp)).1); go_simp; try (first | (with_reducible rfl) | (with_reducible exact ⟨rfl, rfl⟩)))
 try simp only [Act.put, List.getElem_toArray, List.getElem_cons_succ, List.getElem_cons_zero, List.setIfInBounds_toArray, List.set_cons_succ, List.set_cons_zero]
 refine wpAnyK_ex (i := 5) rfl (by kernel_rfl) (listed' := #[true, true, true, false, true, true, false, false, false, false, false, false, false, false, false, false, false]) rfl (fun _ _ _ _ _ h => h) hwx ?_
 apply Exists.intro
 refine ⟨⟨by kernel_rfl, fun wy hw => ?_⟩, ?_⟩
 · (have bw := hw.below; go_simp; try (first | (with_reducible rfl) | (with_reducible exact ⟨rfl, rfl⟩)))
 try simp only [Act.put, List.getElem_toArray, List.getElem_cons_succ, List.getElem_cons_zero, List.setIfInBounds_toArray, List.set_cons_succ, List.set_cons_zero]
 refine wpAnyK_ex (i := 7) rfl (by kernel_rfl) (listed' := #[true, true, true, false, true, true, false, true, false, false, false, false, false, false, false, false, false]) rfl (fun _ _ _ _ _ h => h) hwx ?_
 apply Exists.intro
 refine ⟨⟨by kernel_rfl, fun wy hw => ?_⟩, ?_⟩
 · (have bw := hw.below; go_simp; try (first | (with_reducible rfl) | (with_reducible exact ⟨rfl, rfl⟩)))
 try simp only [Act.put, List.getElem_toArray, List.getElem_cons_succ, List.getElem_cons_zero, List.setIfInBounds_toArray, List.set_cons_succ, List.set_cons_zero]
 refine wpAnyK_ex (i := 10) rfl (by kernel_rfl) (listed' := #[true, true, true, false, true, true, false, true, false, false, true, false, false, false, false, false, false]) rfl (fun _ _ _ _ _ h => h) hwx ?_
 apply Exists.intro
 refine ⟨⟨by kernel_rfl, fun wy hw => ?_⟩, ?_⟩
 · (have bw := hw.below; go_simp; try (first | (with_reducible rfl) | (with_reducible exact ⟨rfl, rfl⟩)))
 try simp only [Act.put, List.getElem_toArray, List.getElem_cons_succ, List.getElem_cons_zero, List.setIfInBounds_toArray, List.set_cons_succ, List.set_cons_zero]
 refine wpAnyK_ex (i := 13) rfl (by kernel_rfl) (listed' := #[true, true, true, false, true, true, false, true, false, false, true, false, false, true, false, false, false]) rfl (fun _ _ _ _ _ h => h) hwx ?_
 apply Exists.intro
 refine ⟨⟨by kernel_rfl, fun wy hw => ?_⟩, ?_⟩
 · (have bw := hw.below; go_simp; try (first | (with_reducible rfl) | (with_reducible exact ⟨rfl, rfl⟩)))
 try simp only [Act.put, List.getElem_toArray, List.getElem_cons_succ, List.getElem_cons_zero, List.setIfInBounds_toArray, List.set_cons_succ, List.set_cons_zero]
 refine wpAnyK_fork1 3 (by kernel_rfl) ?_
 refine wpOpK_step rfl (by kernel_rfl) (listed' := #[true, true, true, true, true, true, false, true, false, false, true, false, false, true, false, false, false]) rfl (by kernel_rfl) (fun K hK => ?_)
 go_simp
 refine (HCC.out _ _ (HFA.out.below hwx.below)).mono ?_
 rintro e x3' ⟨adk, ck, row, lv, rfl, hlc, hrk, hlk, hck, hb⟩
 have HX3 := Lib.hid (below_up8 (hwx.below) hb)
 refine hK _ _ HX3.out ?_
 clear hK K
 try simp only [Act.put, List.getElem_toArray, List.getElem_cons_succ, List.getElem_cons_zero, List.setIfInBounds_toArray, List.set_cons_succ, List.set_cons_zero]
 have HCK := Lib.hid (show CksOk x3' adk lv (cksN n) from cks_of hrk (by rw [← HF.out]; exact hlk) (by rw [← HF.out]; exact hck))
 have HLK := Lib.hid hlk
 clear hlc hrk hlk hck hb
 refine wpAnyK_callx (i := 6) rfl (by kernel_rfl) (listed' := #[true, true, true, true, true, true, true, true, false, false, true, false, false, true, false, false, false]) rfl (fun _ _ _ _ _ h => h) HX3.out ?_
 apply Exists.intro
 apply Exists.intro
 apply Exists.intro
 refine ⟨⟨by kernel_rfl, fun wy hw => ?_, fun wy hw => ?_⟩, ?_⟩
 · (have bw := hw.below; go_simp; try (first | (with_reducible rfl) | (with_reducible exact ⟨rfl, rfl⟩)))
 · (exact HPA.out _)
 try simp only [Act.put, List.getElem_toArray, List.getElem_cons_succ, List.getElem_cons_zero, List.setIfInBounds_toArray, List.set_cons_succ, List.set_cons_zero]
 refine wpAnyK_callx (i := 8) rfl (by kernel_rfl) (listed' := #[true, true, true, true, true, true, true, true, true, false, true, false, false, true, false, false, false]) rfl (fun _ _ _ _ _ h => h) HX3.out ?_
 apply Exists.intro
 apply Exists.intro
 apply Exists.intro
 refine ⟨⟨by kernel_rfl, fun wy hw => ?_, fun wy hw => ?_⟩, ?_⟩
 · (have bw := hw.below; go_simp; try (first | (with_reducible rfl) | (with_reducible exact ⟨rfl, rfl⟩)))
 · (exact HPB.out _)
 try simp only [Act.put, List.getElem_toArray, List.getElem_cons_succ, List.getElem_cons_zero, List.setIfInBounds_toArray, List.set_cons_succ, List.set_cons_zero]
 refine wpAnyK_ex (i := 9) rfl (by kernel_rfl) (listed' := #[true, true, true, true, true, true, true, true, true, true, true, false, false, true, false, false, false]) rfl (fun _ _ _ _ _ h => h) HX3.out ?_
 apply Exists.intro
 refine ⟨⟨by kernel_rfl, fun wy hw => ?_⟩, ?_⟩
 · (have bw := hw.below; go_simp; try (first | (with_reducible rfl) | (with_reducible exact ⟨rfl, rfl⟩)))
 try simp only [Act.put, List.getElem_toArray, List.getElem_cons_succ, List.getElem_cons_zero, List.setIfInBounds_toArray, List.set_cons_succ, List.set_cons_zero]
 refine wpAnyK_callx (i := 11) rfl (by kernel_rfl) (listed' := #[true, true, true, true, true, true, true, true, true, true, true, true, false, true, false, false, false]) rfl (fun _ _ _ _ _ h => h) HX3.out ?_
 apply Exists.intro
 apply Exists.intro
 apply Exists.intro
 refine ⟨⟨by kernel_rfl, fun wy hw => ?_, fun wy hw => ?_⟩, ?_⟩
 · (have bw := hw.below; go_simp; try (first | (with_reducible rfl) | (with_reducible exact ⟨rfl, rfl⟩)))
 · (exact HPC.out _)
 try simp only [Act.put, List.getElem_toArray, List.getElem_cons_succ, List.getElem_cons_zero, List.setIfInBounds_toArray, List.set_cons_succ, List.set_cons_zero]
 refine wpAnyK_ex (i := 12) rfl (by kernel_rfl) (listed' := #[true, true, true, true, true, true, true, true, true, true, true, true, true, true, false, false, false]) rfl (fun _ _ _ _ _ h => h) HX3.out ?_
 apply Exists.intro
 refine ⟨⟨by kernel_rfl, fun wy hw => ?_⟩, ?_⟩
 · (have bw := hw.below; go_simp; try (first | (with_reducible rfl) | (with_reducible exact ⟨rfl, rfl⟩)))
 try simp only [Act.put, List.getElem_toArray, List.getElem_cons_succ, List.getElem_cons_zero, List.setIfInBounds_toArray, List.set_cons_succ, List.set_cons_zero]
 have HMX := Lib.hid (show madeN f.lat f.dr.length f.sv.length (pick8 n 100) (2000000 + pick8 n 1000000) (pick8 n 21 - 1) l = hpsN n l from by rw [HN.out.1, HN.out.2, HF.out]; rfl)
 have HMC := Lib.hid (fun W hW => show Calls Tryd.prog 37 #[.agg #[.slice x1 f.dr.length k1, .int .i64 f.lat, .int .i64 f.lia, .slice x2 f.sv.length k2, .slice x3 f.tm.length k3], .int .i64 (pick8 n 100), .int .i64 (2000000 + pick8 n 1000000), .int .i64 (pick8 n 21 - 1), .slice ad l.length c] W (HpsPost W (hpsN n l)) from by rw [← HMX.out]; exact madeR_any ⟨x1, f.dr.length, k1, f.lat, f.lia, x2, f.sv.length, k2, x3, f.tm.length, k3, none, .cells #[] 24⟩ rfl (pick8 n 100) (2000000 + pick8 n 1000000) (pick8 n 21 - 1) ad c l (by show 1 ≤ f.dr.length; rw [HN.out.1]; omega) (by show f.dr.length ≤ 6; rw [HN.out.1]; omega) (by show 1 ≤ f.sv.length; rw [HN.out.2]; omega) (by show f.sv.length ≤ 1000; rw [HN.out.2]; omega) HLAT.out.1 HLAT.out.2 a0 (by omega) (by omega) (by omega) HDI.out.1 HDI.out.2 W hW)
 refine wpAnyK_fork1 14 (by kernel_rfl) ?_
 refine wpOpK_step rfl (by kernel_rfl) (listed' := #[true, true, true, true, true, true, true, true, true, true, true, true, true, true, true, false, false]) rfl (by kernel_rfl) (fun K hK => ?_)
 go_simp
 refine (HMC.out _ (HI2.out.below HX3.out)).mono ?_
 rintro e x14' ⟨adm, cm, rfl, hnm, hrm, hb⟩
 have HX14 := Lib.hid (below_up8 (HX3.out) hb)
 refine hK _ _ HX14.out ?_
 clear hK K
 try simp only [Act.put, List.getElem_toArray, List.getElem_cons_succ, List.getElem_cons_zero, List.setIfInBounds_toArray, List.set_cons_succ, List.set_cons_zero]
 have HRM := Lib.hid hrm
 have HCK2 := Lib.hid (HCK.out.below hb)
 clear hrm hb HMC HMX
 obtain ⟨sm, hsm, him, hl24, hnowm⟩ := made_ok (latT_bd (pick8 n 4)).1 (latT_bd (pick8 n 4)).2 (agN n) 6 (by omega) (by decide) (pick8 n 100) (2000000 + pick8 n 1000000) (pick8 n 21 - 1) (by omega) (by omega) l
 have hsm := (show hpsN n l = sm.out from hsm)
 have HSE := Lib.hid (show strN (cksN n) (List.replicate f.dr.length []) (hpsN n l) = stN n l from by rw [HN.out.1]; rfl)
 have HSC := Lib.hid (fun W h1 h2 => show Calls Tryd.prog 36 #[.agg #[.slice x1 f.dr.length k1, .int .i64 f.lat, .int .i64 f.lia, .slice x2 f.sv.length k2, .slice x3 f.tm.length k3], .slice adk lv.length ck, .slice adm (hpsN n l).length cm] W (StPost W (stN n l)) from by rw [← HSE.out]; exact streamsR_any x1 x2 x3 adk adm f.dr.length k1 f.sv.length k2 f.tm.length k3 ck cm f.lat f.lia lv (cksN n) (hpsN n l) (by rw [HN.out.1]; omega) (by rw [cksN_len, HN.out.1]) (by rw [hsm]; omega) hnm (by rw [hsm]; exact him.out.srt.imp fun h => Int.le_of_lt h) W h1 h2)
 have hlm : (hpsN n l).length ≤ 24 := by rw [hsm]; exact hl24
 clear him hnm hsm hl24 hnowm
 refine wpAnyK_fork1 15 (by kernel_rfl) ?_
 refine wpOpK_step rfl (by kernel_rfl) (listed' := #[true, true, true, true, true, true, true, true, true, true, true, true, true, true, true, true, false]) rfl (by kernel_rfl) (fun K hK => ?_)
 go_simp
 refine (HSC.out _ HCK2.out HRM.out.rl).mono ?_
 rintro e x15 ⟨O, rfl, hst, hb⟩
 have HX15 := Lib.hid (below_up8 (HX14.out) hb)
 refine hK _ _ HX15.out ?_
 clear hK K
 try simp only [Act.put, List.getElem_toArray, List.getElem_cons_succ, List.getElem_cons_zero, List.setIfInBounds_toArray, List.set_cons_succ, List.set_cons_zero]
 refine wpAnyK_end (by kernel_rfl) ?_
 try simp only [pickOps, List.filterMap_cons, List.filterMap_nil, List.getElem?_toArray, List.getElem?_cons_succ, List.getElem?_cons_zero]
 have HST := Lib.hid hst
 have HL2 := Lib.hid (show (stN n l).length ≤ 1000 ∧ (∀ i, ((stN n l).getD i []).length ≤ 10000) ∧ (ofL (stN n l) (pick8 n 100)).length ≤ 10000000 from by
  have hso := StrOk.all (cs := cksN n) (hpsN n l) [] (List.replicate (agN n) []) (strOk0 (cksN n) (agN n)) (by
   obtain ⟨sm, hsm, him, _⟩ := made_ok (latT_bd (pick8 n 4)).1 (latT_bd (pick8 n 4)).2 (agN n) 6 (by omega) (by decide) (pick8 n 100) (2000000 + pick8 n 1000000) (pick8 n 21 - 1) (by omega) (by omega) l
   rw [List.nil_append, show hpsN n l = sm.out from hsm]
   exact him.out.srt.imp fun h => Int.le_of_lt h)
  have hs2 := hso.sum
  rw [List.nil_append] at hs2
  have hlen : (stN n l).length = agN n := by unfold stN; rw [strN_len]; simp
  refine ⟨by omega, fun i => ?_, by have := (ex_ok n l).1; unfold exN at this; omega⟩
  rcases Nat.lt_or_ge i (stN n l).length with h | h
  · rw [getD_of8 h]
    have := le_sum8 ((stN n l).map List.length) i (by simpa using h)
    rw [List.getElem_map] at this
    have hs3 : ((stN n l).map List.length).sum ≤ (hpsN n l).length := hs2
    omega
  · rw [List.getD_eq_getElem?_getD, List.getElem?_eq_none h]; exact Nat.zero_le _)
 clear hst hb hlm HSC HRM HCK2 HCK HX3 HX14
 have HB15 := Lib.hid (below_up8 HB2.out HX15.out)
 go_wp2_with fail
 refine NoPanic.normal ?_
 go_wp2_with (first | (go_at_call 38; refine (HPD.out _).mono ?_; rintro e z ⟨rfl, rfl⟩))
 refine (ofR_any (some ⟨O, 0, none⟩) (stN n l).length (stN n l) (pick8 n 100) HL2.out.1 HL2.out.2.1 HL2.out.2.2 _ HST.out).mono ?_
 rintro e w4 ⟨a4, c4, a5, c5, rfl, hn4, hn5, hr4, hr5, hb⟩
 have HR4 := Lib.hid (And.intro hn4 (And.intro hn5 (And.intro hr4 hr5)))
 have HB4 := Lib.hid hb
 have HX4 := Lib.hid (below_up8 HX15.out hb)
 have HLN := Lib.hid (show (ofL (stN n l) (pick8 n 100)).length = (exN n l).length from rfl)
 have HK4 := Lib.hid (HK2.out.below HX4.out)
 have HK04 := Lib.hid (HK02.out.below HX4.out)
 clear hn4 hn5 hr4 hr5 hb
 rw [HLN.out]
 have f0 := (show w4.cell? ⟨Q, 0, none⟩ = some (.slice x1 f.dr.length k1) from (HK4.out 0 (by simp)).1)
 have f1 := (show w4.cell? ⟨Q, 1, none⟩ = some (.int .i64 f.lat) from (HK4.out 1 (by simp)).1)
 have f2 := (show w4.cell? ⟨Q, 2, none⟩ = some (.int .i64 f.lia) from (HK4.out 2 (by simp)).1)
 have f3 := (show w4.cell? ⟨Q, 3, none⟩ = some (.slice x2 f.sv.length k2) from (HK4.out 3 (by simp)).1)
 have f4 := (show w4.cell? ⟨Q, 4, none⟩ = some (.slice x3 f.tm.length k3) from (HK4.out 4 (by simp)).1)
 have z0 := (show w4.cell? ⟨w.heap.size, 0, none⟩ = some (.slice none 0 0) from (HK04.out 0 (by simp)).1)
 have y0 := (HK04.out 0 (by simp)).2
 have z1 := (show w4.cell? ⟨w.heap.size, 1, none⟩ = some (.int .i64 0) from (HK04.out 1 (by simp)).1)
 have y1 := (HK04.out 1 (by simp)).2
 have z2 := (show w4.cell? ⟨w.heap.size, 2, none⟩ = some (.int .i64 0) from (HK04.out 2 (by simp)).1)
 have y2 := (HK04.out 2 (by simp)).2
 have z3 := (show w4.cell? ⟨w.heap.size, 3, none⟩ = some (.slice none 0 0) from (HK04.out 3 (by simp)).1)
 have y3 := (HK04.out 3 (by simp)).2
 have z4 := (show w4.cell? ⟨w.heap.size, 4, none⟩ = some (.slice none 0 0) from (HK04.out 4 (by simp)).1)
 have y4 := (HK04.out 4 (by simp)).2
 go_wp2_with fail
 obtain ⟨WF, hWF⟩ : ∃ WF, WF = (((((w4.setCell ⟨w.heap.size, 0, none⟩ (.slice x1 f.dr.length k1)).setCell ⟨w.heap.size, 1, none⟩ (.int .i64 f.lat)).setCell ⟨w.heap.size, 2, none⟩ (.int .i64 f.lia)).setCell ⟨w.heap.size, 3, none⟩ (.slice x2 f.sv.length k2)).setCell ⟨w.heap.size, 4, none⟩ (.slice x3 f.tm.length k3)) := ⟨_, rfl⟩
 rw [← hWF]
 have HKF := Lib.hid (show CellsAt WF w.heap.size [.slice x1 f.dr.length k1, .int .i64 f.lat, .int .i64 f.lia, .slice x2 f.sv.length k2, .slice x3 f.tm.length k3] from by rw [hWF]; exact (((((HK04.out.put 0 (.slice x1 f.dr.length k1)).put 1 (.int .i64 f.lat)).put 2 (.int .i64 f.lia)).put 3 (.slice x2 f.sv.length k2)).put 4 (.slice x3 f.tm.length k3)))
 have HB4W := Lib.hid (show Below w.heap.size w w4 from below_up8 HB15.out HB4.out)
 have HBF := Lib.hid (show Below w.heap.size w WF from by rw [hWF]; exact (((((HB4W.out.setCell (p := ⟨w.heap.size, 0, none⟩) (Nat.le_refl _) (.slice x1 f.dr.length k1)).setCell (p := ⟨w.heap.size, 1, none⟩) (Nat.le_refl _) (.int .i64 f.lat)).setCell (p := ⟨w.heap.size, 2, none⟩) (Nat.le_refl _) (.int .i64 f.lia)).setCell (p := ⟨w.heap.size, 3, none⟩) (Nat.le_refl _) (.slice x2 f.sv.length k2)).setCell (p := ⟨w.heap.size, 4, none⟩) (Nat.le_refl _) (.slice x3 f.tm.length k3)))
 have hx15 : w.heap.size < x15.heap.size := by have := HX15.out.size; have := HZ12.out; omega
 have HP := Lib.hid (show ExPost w f (exN n l) (.returned (.tuple #[.agg #[.slice x1 f.dr.length k1, .int .i64 f.lat, .int .i64 f.lia, .slice x2 f.sv.length k2, .slice x3 f.tm.length k3], .slice a4 (exN n l).length c4, .slice a5 (exN n l).length c5])) WF from by
  refine ⟨x1, k1, x2, k2, x3, k3, a4, c4, a5, c5, rfl, ?_, ?_, ?_, HR4.out.1, HR4.out.2.1, ?_, ?_, HBF.out⟩
  · rw [hWF]; exact ((((((HRN.out.1.below HX4.out).far (B := w.heap.size) (i := 0) (u := .slice x1 f.dr.length k1) (Nat.lt_succ_self _)).far (B := w.heap.size) (i := 1) (u := .int .i64 f.lat) (Nat.lt_succ_self _)).far (B := w.heap.size) (i := 2) (u := .int .i64 f.lia) (Nat.lt_succ_self _)).far (B := w.heap.size) (i := 3) (u := .slice x2 f.sv.length k2) (Nat.lt_succ_self _)).far (B := w.heap.size) (i := 4) (u := .slice x3 f.tm.length k3) (Nat.lt_succ_self _)).base (Nat.le_succ _)
  · rw [hWF]; exact ((((((HRN.out.2.1.below HX4.out).far (B := w.heap.size) (i := 0) (u := .slice x1 f.dr.length k1) (Nat.lt_succ_self _)).far (B := w.heap.size) (i := 1) (u := .int .i64 f.lat) (Nat.lt_succ_self _)).far (B := w.heap.size) (i := 2) (u := .int .i64 f.lia) (Nat.lt_succ_self _)).far (B := w.heap.size) (i := 3) (u := .slice x2 f.sv.length k2) (Nat.lt_succ_self _)).far (B := w.heap.size) (i := 4) (u := .slice x3 f.tm.length k3) (Nat.lt_succ_self _)).base (Nat.le_succ _)
  · rw [hWF]; exact ((((((HRN.out.2.2.below HX4.out).far (B := w.heap.size) (i := 0) (u := .slice x1 f.dr.length k1) (Nat.lt_succ_self _)).far (B := w.heap.size) (i := 1) (u := .int .i64 f.lat) (Nat.lt_succ_self _)).far (B := w.heap.size) (i := 2) (u := .int .i64 f.lia) (Nat.lt_succ_self _)).far (B := w.heap.size) (i := 3) (u := .slice x2 f.sv.length k2) (Nat.lt_succ_self _)).far (B := w.heap.size) (i := 4) (u := .slice x3 f.tm.length k3) (Nat.lt_succ_self _)).base (Nat.le_succ _)
  · rw [hWF]; exact (((((HR4.out.2.2.1.far (B := w.heap.size) (i := 0) (u := .slice x1 f.dr.length k1) hx15).far (B := w.heap.size) (i := 1) (u := .int .i64 f.lat) hx15).far (B := w.heap.size) (i := 2) (u := .int .i64 f.lia) hx15).far (B := w.heap.size) (i := 3) (u := .slice x2 f.sv.length k2) hx15).far (B := w.heap.size) (i := 4) (u := .slice x3 f.tm.length k3) hx15).base (Nat.le_of_lt hx15)
  · rw [hWF]; exact (((((HR4.out.2.2.2.far (B := w.heap.size) (i := 0) (u := .slice x1 f.dr.length k1) hx15).far (B := w.heap.size) (i := 1) (u := .int .i64 f.lat) hx15).far (B := w.heap.size) (i := 2) (u := .int .i64 f.lia) hx15).far (B := w.heap.size) (i := 3) (u := .slice x2 f.sv.length k2) hx15).far (B := w.heap.size) (i := 4) (u := .slice x3 f.tm.length k3) hx15).base (Nat.le_of_lt hx15))
 clear f0 f1 f2 f3 f4 z0 z1 z2 z3 z4 y0 y1 y2 y3 y4 hWF
 obtain ⟨g0, _⟩ := HKF.out 0 (by simp); obtain ⟨g1, _⟩ := HKF.out 1 (by simp); obtain ⟨g2, _⟩ := HKF.out 2 (by simp); obtain ⟨g3, _⟩ := HKF.out 3 (by simp); obtain ⟨g4, _⟩ := HKF.out 4 (by simp)
 simp only [List.getElem_cons_zero, List.getElem_cons_succ] at g0 g1 g2 g3 g4
 rw [← HF.out]
 exact bodyPost_ret (v := .tuple #[.agg #[.slice x1 f.dr.length k1, .int .i64 f.lat, .int .i64 f.lia, .slice x2 f.sv.length k2, .slice x3 f.tm.length k3], .slice a4 (exN n l).length c4, .slice a5 (exN n l).length c5]) (by simp [results, Tryd.results12, go_sem, g0, g1, g2, g3, g4]) rfl HP.out
end Go.Proofs.YtamefmojocegkaaDoor

namespace Go.Proofs.YtamefmojocegkaaDoor
open Go Go.Proofs Go.RowKit Go.Lib Go.Sort
def AgreesOk8 (f : FuncId) : Prop := ∀ (v : Value) (x : Fl) (ad ad2 : Option Addr) (c c2 : Nat) (l : List Ev) (y : List Int) (m : Int) (w : World), x.fit → l.length ≤ maxLen → y.length ≤ maxLen → evsW l → Rdy w → FlAt w v x → RL KE w ad l → RL KI w ad2 y → Calls Tryd.prog f #[v, .slice ad l.length c, .slice ad2 y.length c2, .int .i64 m] w fun e w' => e = .returned (.bool (agB x l y m)) ∧ Below w.heap.size w w'
theorem fleet_fit (n : Int) : (fleetN n).fit := by
 have h := agN_bd n
 refine ⟨by rw [fleetN_len]; omega, ?_, ?_⟩
 · show ([0, 1, 2, 0, 1, 2] : List Int).length ≤ _; decide
 · show ([0, 1, 1] : List Int).length ≤ _; decide
theorem kd_wf {ns : Nat} {pe : Int} {na : Nat} {msg : Int} {gr : Int → Int} {e : Ev} (h : EvK ns pe na msg gr e) : 1 ≤ e.kd ∧ e.kd ≤ 6 := by
 rcases h with k | ⟨_, k | k | k | k⟩ <;> omega
theorem wf_of {e : Ev} (h : 1 ≤ e.kd ∧ e.kd ≤ 6) : e.wf := by
 have h6 : e.kd = 1 ∨ e.kd = 2 ∨ e.kd = 3 ∨ e.kd = 4 ∨ e.kd = 5 ∨ e.kd = 6 := by omega
 unfold Ev.wf
 rcases h6 with k | k | k | k | k | k <;> rw [k] <;> decide
theorem ex_wf (n : Int) (l : List D4) : evsW ((exN n l).map (·.e)) := by
 intro e he
 obtain ⟨h, hh, rfl⟩ := List.mem_map.1 he
 obtain ⟨na, hk⟩ := ((ex_ok n l).2.1 h hh).src
 exact wf_of (kd_wf hk)
theorem sh_wf (n less : Int) (l : List D4) (k : Nat) : evsW (shK n less (exN n l) k) := by
 intro e he
 unfold shK at he
 rcases List.mem_append.1 he with he | he
 · obtain ⟨h, hh, rfl⟩ := List.mem_map.1 he
   obtain ⟨na, hk⟩ := ((ex_ok n l).2.1 h (List.mem_of_mem_take hh)).src
   exact wf_of (e := { h.e with tm := rdL n less h }) (show 1 ≤ h.e.kd ∧ h.e.kd ≤ 6 from kd_wf hk)
 · obtain ⟨h, hh, rfl⟩ := List.mem_map.1 he
   obtain ⟨na, hk⟩ := ((ex_ok n l).2.1 h (List.mem_of_mem_drop hh)).src
   exact wf_of (kd_wf hk)
theorem real_any (HSA : SaneOk 10) (HRD : ReadingOk 27) (HAG : AgreesOk8 21) (n : Int) (ad : Option Addr) (c : Nat) (l : List D4) (agents less : Int) (h0 : -9223372036854775808 ≤ n) (h1 : n ≤ 9223372036854775807) (hl : l.length ≤ maxLen) (hdi : ∀ d ∈ l, d.fit) (m0 : -9223372036854775808 ≤ less) (m1 : less ≤ 9223372036854775807) (w : World) (hR : Rdy w) (hI : RL KD w ad l) :
 Calls Tryd.prog 6 #[.int .i64 n, .slice ad l.length c, .int .i64 agents, .int .i64 less] w fun e w' => e = .returned (.bool true) ∧ Below w.heap.size w w' := by
 have HRY := Lib.hid (fun W (b : Below w.heap.size w W) => hR.below b)
 have HII := Lib.hid (fun W (b : Below w.heap.size w W) => hI.below b)
 have HEX := Lib.hid (fun W hW => exampleR_any n ad c l h0 h1 hl hdi W hW)
 have HAM := Lib.hid (fun m => ex_agree n l m)
 have HSM := Lib.hid (fun hr => sh_agree n less l hr 63)
 have HOK := Lib.hid (ex_ok n l).2.1
 have HLN := Lib.hid (ex_ok n l).1
 have HWF := Lib.hid (And.intro (ex_wf n l) (fun k => sh_wf n less l k))
 have HCC := Lib.hid (fun v W hf => clocksR_any v (fleetN n) n (by rw [fleetN_len]; have := agN_bd n; omega) h0 h1 W hf)
 have HPK := Lib.hid (fun (k : Int) (k1 : 1 ≤ k) (k2 : k ≤ 2000) W => (pickL8_any less k m0 m1 k1 (by omega) W).mono fun _ _ h => And.intro h.1 h.2)
 have HSA1 := HSA w hR
 clear HSA hR hI hdi
 go_enter Tryd.func6, Tryd.ntmps6
 go_wp2_with fail
 refine HSA1.mono ?_
 rintro e w1 ⟨rfl, hb1⟩
 have HB1 := Lib.hid hb1
 clear hb1 HSA1
 go_wp2_with fail
 refine (HEX.out _ (HII.out _ HB1.out)).mono ?_
 rintro e w2 ⟨x1, k1, x2, k2, x3, k3, a4, c4, a5, c5, rfl, r1, r2, r3, hn4, hn5, r4, r5, hb2⟩
 have HB2 := Lib.hid (below_up8 HB1.out hb2)
 clear hb2 HB1 HEX HII
 obtain ⟨f, hf⟩ : ∃ f, f = fleetN n := ⟨_, rfl⟩
 have HF := Lib.hid hf
 have HFT := Lib.hid (show f.fit from by rw [hf]; exact fleet_fit n)
 have HFL := Lib.hid (show f.dr.length = agN n from by rw [hf]; exact fleetN_len n)
 rw [← hf] at r1 r2 r3 HAM HSM HCC ⊢
 clear hf
 obtain ⟨hs, hhs⟩ : ∃ hs, hs = exN n l := ⟨_, rfl⟩
 rw [← hhs] at r4 r5 HAM HSM HOK HLN HWF ⊢
 clear hhs
 have HR := Lib.hid (show FlAt w2 (.agg #[.slice x1 f.dr.length k1, .int .i64 f.lat, .int .i64 f.lia, .slice x2 f.sv.length k2, .slice x3 f.tm.length k3]) f ∧ RL KE w2 a4 (hs.map (·.e)) ∧ RL KI w2 a5 (hs.map (·.t)) ∧ (a4 = none → c4 = 0) from ⟨⟨x1, k1, x2, k2, x3, k3, rfl, r1.rl, r2.rl, r3.rl⟩, r4.rl, r5.rl, hn4⟩)
 clear r1 r2 r3 r4 r5 hn4 hn5
 have HMX := Lib.hid (show hs.length ≤ maxLen from by have := HLN.out; unfold maxLen; omega)
 have HCA := Lib.hid (fun W (b : Below w2.heap.size w2 W) (m : Int) => show Calls Tryd.prog 21 #[.agg #[.slice x1 f.dr.length k1, .int .i64 f.lat, .int .i64 f.lia, .slice x2 f.sv.length k2, .slice x3 f.tm.length k3], .slice a4 hs.length c4, .slice a5 hs.length c5, .int .i64 m] W (fun e w' => e = .returned (.bool true) ∧ Below W.heap.size W w') from by
  have h := HAG _ f a4 a5 c4 c5 (hs.map (·.e)) (hs.map (·.t)) m W HFT.out (by rw [List.length_map]; exact HMX.out) (by rw [List.length_map]; exact HMX.out) HWF.out.1 (HRY.out _ (below_up8 HB2.out b)) (HR.out.1.below b) (HR.out.2.1.below b) (HR.out.2.2.1.below b)
  rw [List.length_map, List.length_map, HAM.out m] at h
  exact h)
 obtain ⟨w3, V3, Z3, K3, B3⟩ := lay8 w2 [.slice x1 f.dr.length k1, .int .i64 f.lat, .int .i64 f.lia, .slice x2 f.sv.length k2, .slice x3 f.tm.length k3] 24
 have V3 := (show w2.alloc (.cells #[.slice x1 f.dr.length k1, .int .i64 f.lat, .int .i64 f.lia, .slice x2 f.sv.length k2, .slice x3 f.tm.length k3] 24) = w3 from V3)
 go_upto_region 3 with fail
 clear V3
 have HK3 := Lib.hid K3
 have HB23 := Lib.hid B3
 have HZ3 := Lib.hid Z3
 clear K3 B3 Z3
 generalize w2.heap.size = Q at HK3 ⊢
 have f0 := (show w3.cell? ⟨Q, 0, none⟩ = some (.slice x1 f.dr.length k1) from (HK3.out 0 (by simp)).1)
 have f1 := (show w3.cell? ⟨Q, 1, none⟩ = some (.int .i64 f.lat) from (HK3.out 1 (by simp)).1)
 have f2 := (show w3.cell? ⟨Q, 2, none⟩ = some (.int .i64 f.lia) from (HK3.out 2 (by simp)).1)
 have f3 := (show w3.cell? ⟨Q, 3, none⟩ = some (.slice x2 f.sv.length k2) from (HK3.out 3 (by simp)).1)
 have f4 := (show w3.cell? ⟨Q, 4, none⟩ = some (.slice x3 f.tm.length k3) from (HK3.out 4 (by simp)).1)
 go_wp2_with fail
 refine (HCA.out _ HB23.out _).mono ?_
 rintro e w4 ⟨rfl, hb⟩
 have HK4 := Lib.hid (HK3.out.below hb)
 have HB24 := Lib.hid (below_up8 HB23.out hb)
 clear hb f0 f1 f2 f3 f4 HK3 HB23
 have f0 := (show w4.cell? ⟨Q, 0, none⟩ = some (.slice x1 f.dr.length k1) from (HK4.out 0 (by simp)).1)
 have f1 := (show w4.cell? ⟨Q, 1, none⟩ = some (.int .i64 f.lat) from (HK4.out 1 (by simp)).1)
 have f2 := (show w4.cell? ⟨Q, 2, none⟩ = some (.int .i64 f.lia) from (HK4.out 2 (by simp)).1)
 have f3 := (show w4.cell? ⟨Q, 3, none⟩ = some (.slice x2 f.sv.length k2) from (HK4.out 3 (by simp)).1)
 have f4 := (show w4.cell? ⟨Q, 4, none⟩ = some (.slice x3 f.tm.length k3) from (HK4.out 4 (by simp)).1)
 go_wp2_with fail
 refine (HCA.out _ HB24.out _).mono ?_
 rintro e w5 ⟨rfl, hb⟩
 have HK5 := Lib.hid (HK4.out.below hb)
 have HB25 := Lib.hid (below_up8 HB24.out hb)
 clear hb f0 f1 f2 f3 f4 HK4 HB24
 have f0 := (show w5.cell? ⟨Q, 0, none⟩ = some (.slice x1 f.dr.length k1) from (HK5.out 0 (by simp)).1)
 have f1 := (show w5.cell? ⟨Q, 1, none⟩ = some (.int .i64 f.lat) from (HK5.out 1 (by simp)).1)
 have f2 := (show w5.cell? ⟨Q, 2, none⟩ = some (.int .i64 f.lia) from (HK5.out 2 (by simp)).1)
 have f3 := (show w5.cell? ⟨Q, 3, none⟩ = some (.slice x2 f.sv.length k2) from (HK5.out 3 (by simp)).1)
 have f4 := (show w5.cell? ⟨Q, 4, none⟩ = some (.slice x3 f.tm.length k3) from (HK5.out 4 (by simp)).1)
 go_wp2_with fail
 refine (HCC.out _ _ (HR.out.1.below HB25.out)).mono ?_
 rintro e w6 ⟨adk, ck, row, lv, rfl, hlc, hrk, hlk, hck, hb⟩
 have HK6 := Lib.hid (HK5.out.below hb)
 have HB26 := Lib.hid (below_up8 HB25.out hb)
 have HCK := Lib.hid (show CksOk w6 adk lv (cksN n) ∧ lv.length = agN n ∧ ∀ i (h : i < lv.length), lv[i].n ≤ lv[i].c from ⟨cks_of hrk (by rw [← HF.out]; exact hlk) (by rw [← HF.out]; exact hck), by rw [← HFL.out]; exact hlk, fun i hi => by
  obtain ⟨_, _, _, _, _, _, _, _, _, h⟩ := hck i hi
  exact h⟩)
 clear hb f0 f1 f2 f3 f4 HK5 HB25 hlc hrk hlk hck HCC
 obtain ⟨w7, V7, Z7, K7, B7⟩ := lay8 w6 [] 46
 have HO7 := Lib.hid (show Own KE w7 w6.heap.size (.slice (some ⟨w6.heap.size, 0, none⟩) 0 0) [] by rw [← V7]; exact KE.new w6 w6.heap.size [] (Nat.le_refl _) (by simp) [] rfl 46 rfl 0 rfl)
 have HR7 := Lib.hid ((HR.out.2.1.below HB26.out).below B7)
 have HB67 := Lib.hid B7
 have hz7 : w6.heap.size ≤ w7.heap.size := by omega
 have hn4 := HR.out.2.2.2
 have hlm : (hs.map (·.e)).length = hs.length := List.length_map ..
 clear K7 B7 Z7
 go_upto_region 7 with (at_builtin; refine walk_arg8 KE rfl _ _ rfl w6.heap.size (.slice (some ⟨w6.heap.size, 0, none⟩) 0 0) (hs.map (·.e)) rfl HO7.out hz7 a4 c4 (by rw [hlm]; rfl) HR7.out hn4 (by rw [hlm]; have := HLN.out; omega) ?_; intro v8 w8 ho8 hb8)
 clear V7 hn4 HO7 HR7
 obtain ⟨sad, scp, e8, _⟩ := ho8.form
 rw [hlm] at e8
 subst e8
 have HO8 := Lib.hid ho8
 have HB68 := Lib.hid (show Below w6.heap.size w6 w8 from HB67.out.trans hb8)
 clear ho8 hb8 HB67 hz7
 go_wp2_with fail
 go_loopw [15] (fun i wr => ∃ k : Nat, i = .int .i64 k ∧ k ≤ hs.length ∧ Hid (Own KE wr w6.heap.size (.slice sad hs.length scp) (shK n less hs k) ∧ ∀ j (hj : j < hs.length), j < k → 0 ≤ rdL n less hs[j] ∧ rdL n less hs[j] ≤ 1000000) ∧ Hid (Below w6.heap.size w6 wr)) (fun i _ => hs.length - (RowKit.intOf i).toNat)
 case atStart => exact ⟨0, rfl, Nat.zero_le _, Lib.hid ⟨by rw [shK_zero]; exact HO8.out, fun j _ h => absurd h (Nat.not_lt_zero _)⟩, HB68⟩
 case round =>
  clear HO8 HB68
  obtain ⟨k, rfl, hk, HO, HB⟩ := hrel
  have hln := HLN.out
  have HB2r := Lib.hid (below_up8 HB26.out HB.out)
  have HBwr := Lib.hid (below_up8 HB2.out HB2r.out)
  by_cases hlt : k < hs.length
  · have hki : (k : Int) < (hs.length : Int) := by omega
    have HLT := Lib.hid hlt
    have hsl := shK_len n less hs k hk
    have hks : k < (shK n less hs k).length := by omega
    obtain ⟨g, cg, eg, _, hgb, hgl⟩ := HO.out.1.block (by omega)
    injection eg with e1 e2 e3
    subst e1 e3
    have hcg := HO.out.1.cell k hks 0 (by decide)
    obtain ⟨s2, s3⟩ := HO.out.1.cell k hks 2 (by decide)
    have hge := shK_get n less hs k hlt
    have hx := HOK.out (hs[k]'hlt) (List.getElem_mem hlt)
    have HGE := Lib.hid hge
    have HKS := Lib.hid hks
    obtain ⟨a, ha⟩ := Int.eq_ofNat_of_zero_le hx.ag.1
    have hta : (hs[k]'hlt).e.ag.toNat = a := by omega
    have hagn : a < agN n := by have := hx.ag.2; omega
    have s0 := (show wr.cell? ⟨g, 12 * k, none⟩ = some (.int .i64 (a : Int)) from by
     have := hcg.1
     rw [hge] at this
     rw [show KE.n * k + 0 = 12 * k from rfl] at this
     rw [this, ← ha]; rfl)
    have s2 := (show wr.cell? ⟨g, 12 * k + 2, none⟩ = some (.int .i64 (hs[k]'hlt).e.tm) from by rw [← hge]; exact s2)
    have s3 := (show wr.frozen? ⟨g, 12 * k + 2, none⟩ = false from s3)
    have ixs := (show ∀ W, (Instr.indexAt 25 (.slice (some ⟨g, 0, none⟩) hs.length scp) (.int .i64 (k : Int))).run Tryd.prog W = .ok (.pointer (some ⟨g, 12 * k, none⟩)) W from fun W => by have := at_ev8 g 0 hs.length scp k hlt W; rwa [Nat.zero_add] at this)
    have hlv : a < lv.length := by rw [HCK.out.2.1]; exact hagn
    have HCX := Lib.hid (HCK.out.1.below HB.out)
    obtain ⟨bc, bo, rfl, hbc, hbk⟩ := HCX.out.2.1.at_ a hlv
    obtain ⟨f1, f2, f3, f4⟩ := HCX.out.2.2 a hlv
    have hcc := HCK.out.2.2 a hlv
    rw [cksN_get n a hagn] at f1 f2 f3 f4
    have ixc := fun W => at_ck8 bc bo lv.length ck a hlv W
    have q0 := (show wr.cell? ⟨bc, bo + 2 * a, none⟩ = some (.int .i64 (lv[a]'hlv).dr) from hbk wr (Below.refl _ _) 0 (by decide))
    have q1 := (show wr.cell? ⟨bc, bo + 2 * a + 1, none⟩ = some (.slice (lv[a]'hlv).ad (lv[a]'hlv).n (lv[a]'hlv).c) from hbk wr (Below.refl _ _) 1 (by decide))
    obtain ⟨CN, hCN⟩ : ∃ CN : Cl, CN = clkN (fleetN n) n a := ⟨_, rfl⟩
    have hdr := (ckB_of (clkN_ok n a)).2.1
    rw [← hCN] at f1 f2 f3 f4 hdr
    have HCL := Lib.hid (show clL n less a = { CN with dr := pick8 less (CN.dr + 1) } from by rw [hCN]; rfl)
    rw [f2] at hcc q1
    rw [f1] at q0
    have HLO := Lib.hid (clL_ok n less a)
    generalize (lv[a]'hlv).ad = cad at *
    generalize (lv[a]'hlv).c = ccp at *
    clear hCN hbk hbc f1 f2 HCX hcg e2 hlv
    have hw1 : IntKind.i64.wrap (CN.dr + 1) = CN.dr + 1 := wrapq8 (by omega)
    have HPK1 := Lib.hid (fun W => HPK.out (CN.dr + 1) (by omega) (by omega) W)
    obtain ⟨P, hP⟩ : ∃ P, P = pick8 less (CN.dr + 1) := ⟨_, rfl⟩
    rw [← hP] at HPK1 HCL
    clear hP
    obtain ⟨wX, VX, ZX, KX, BX⟩ := lay8 wr [.int .i64 CN.dr, .slice cad CN.an.length ccp] 50
    have VX := (show wr.alloc (.cells #[.int .i64 CN.dr, .slice cad CN.an.length ccp] 50) = wX from VX)
    have ht := hx.t
    have HX := Lib.hid hx
    go_upto_region 11 with fail
    clear VX q0 q1 s0 hge
    obtain ⟨X, hX⟩ : ∃ X, X = wr.heap.size := ⟨_, rfl⟩
    rw [← hX] at KX ⊢
    have HXE := Lib.hid hX
    clear hX
    have y0 := (show wX.cell? ⟨X, 0, none⟩ = some (.int .i64 CN.dr) from (KX 0 (by simp)).1)
    have y1 := (KX 0 (by simp)).2
    go_upto_region 12 with (go_at_call 26; refine (HPK1.out _).mono ?_; rintro e z ⟨rfl, rfl⟩)
    obtain ⟨wY, hwY⟩ : ∃ wY, wY = wX.setCell ⟨X, 0, none⟩ (.int .i64 P) := ⟨_, rfl⟩
    rw [← hwY]
    have HKY := Lib.hid (show CellsAt wY X [.int .i64 P, .slice cad CN.an.length ccp] from by rw [hwY]; exact KX.put 0 _)
    have HBY := Lib.hid (show Below wr.heap.size wr wY from by rw [hwY]; exact BX.setCell (by rw [HXE.out]; exact Nat.le_refl _) _)
    clear y0 y1 hwY KX BX ZX
    have HRY2 := Lib.hid (fun W (b : Below wY.heap.size wY W) => show Calls Tryd.prog 27 #[.agg #[.int .i64 P, .slice cad CN.an.length ccp], .int .i64 (hs[k]'HLT.out).t] W (fun e w' => e = .returned (.tuple #[.int .i64 (rdL n less (hs[k]'HLT.out)), .int .i64 0]) ∧ Below W.heap.size W w') from by
     have h := HRD ({ CN with dr := P }) cad ccp (hs[k]'HLT.out).t f4 hcc W ((f3.below HBY.out).below b)
     have e1 : readE ({ CN with dr := P } : Cl) (hs[k]'HLT.out).t = 0 := by rw [← HCL.out]; exact readE_yes (readB_yes HLO.out (by omega) (by omega))
     have e2 : readV ({ CN with dr := P } : Cl) (hs[k]'HLT.out).t = rdL n less (hs[k]'HLT.out) := by rw [← HCL.out]; unfold rdL; rw [hta]
     rw [e1, e2] at h
     exact h)
    have HTT := Lib.hid (HR.out.2.2.1.below HB2r.out)
    obtain ⟨tb, to_, rfl, htb, htc⟩ := HTT.out.int k (by simpa using hlt)
    have htm : ((hs.map (·.t))[k]'(by simpa using hlt)) = (hs[k]'HLT.out).t := by simp
    rw [htm] at htc
    have HTC := Lib.hid (fun W (b : Below wY.heap.size wY W) => htc W (HBY.out.trans (b.mono HBY.out.size)))
    have ixt := fun W => at_int8 tb to_ hs.length c5 k hlt W
    have HRV := Lib.hid (show shK n less hs (k + 1) = (shK n less hs k).set k { (hs[k]'HLT.out).e with tm := rdL n less (hs[k]'HLT.out) } from shK_step n less hs k HLT.out)
    obtain ⟨rv, hrv⟩ : ∃ rv, rv = rdL n less (hs[k]'HLT.out) := ⟨_, rfl⟩
    rw [← hrv] at HRY2 HRV
    have HRE := Lib.hid hrv
    clear hrv
    clear htc htb htm f3 f4 hcc hta hx ht
    go_cut [17, 18] from 66 to 74 (fun s17 s18 wx => s17 = .int .i64 rv ∧ s18 = .int .i64 0 ∧ Hid (Below wY.heap.size wY wx))
    case first =>
     skip
     refine wp_region_noPanic ?_
     refine wp_region_Kx (C := NewB wY) [10] 10 #[false, false, false, false, false, false, false, false, false, false, false] (by kernel_rfl) (by kernel_rfl) (by kernel_rfl) (newB0 _) ?_
     intro wx hwx
     refine wpAnyK_ex (i := 0) rfl (by kernel_rfl) (listed' := #[true, false, false, false, false, false, false, false, false, false, false]) rfl (fun _ _ _ _ _ h => h) hwx ?_
     apply Exists.intro
     refine ⟨⟨by kernel_rfl, fun wy hw => ?_⟩, ?_⟩
     · (have bw := hw.below; have f0 := (show wy.cell? ⟨X, 0, none⟩ = some (.int .i64 P) from (HKY.out.below bw 0 (by simp)).1); have f1 := (show wy.cell? ⟨X, 1, none⟩ = some (.slice cad CN.an.length ccp) from (HKY.out.below bw 1 (by simp)).1); go_simp; try (first | (with_reducible rfl) | (with_reducible exact ⟨rfl, rfl⟩)))
     try simp only [Act.put, List.getElem_toArray, List.getElem_cons_zero, List.setIfInBounds_toArray, List.set_cons_succ, List.set_cons_zero]
     refine wpAnyK_ex (i := 1) rfl (by kernel_rfl) (listed' := #[true, true, false, false, false, false, false, false, false, false, false]) rfl (fun _ _ _ _ _ h => h) hwx ?_
     apply Exists.intro
     refine ⟨⟨by kernel_rfl, fun wy hw => ?_⟩, ?_⟩
     · (have bw := hw.below; go_simp; try (first | (with_reducible rfl) | (with_reducible exact ⟨rfl, rfl⟩)))
     try simp only [Act.put, List.getElem_toArray, List.getElem_cons_succ, List.getElem_cons_zero, List.setIfInBounds_toArray, List.set_cons_succ, List.set_cons_zero]
     refine wpAnyK_ex (i := 2) rfl (by kernel_rfl) (listed' := #[true, true, true, false, false, false, false, false, false, false, false]) rfl (fun _ _ _ _ _ h => h) hwx ?_
     apply Exists.intro
     refine ⟨⟨by kernel_rfl, fun wy hw => ?_⟩, ?_⟩
     · (have bw := hw.below; go_simp; try (first | (with_reducible rfl) | (with_reducible exact ⟨rfl, rfl⟩)))
     try simp only [Act.put, List.getElem_toArray, List.getElem_cons_succ, List.getElem_cons_zero, List.setIfInBounds_toArray, List.set_cons_succ, List.set_cons_zero]
     refine wpAnyK_ex (i := 3) rfl (by kernel_rfl) (listed' := #[true, true, true, true, false, false, false, false, false, false, false]) rfl (fun _ _ _ _ _ h => h) hwx ?_
     apply Exists.intro
     refine ⟨⟨by kernel_rfl, fun wy hw => ?_⟩, ?_⟩
     · (have bw := hw.below; go_simp; try (first | (with_reducible rfl) | (with_reducible exact ⟨rfl, rfl⟩)))
     try simp only [Act.put, List.getElem_toArray, List.getElem_cons_succ, List.getElem_cons_zero, List.setIfInBounds_toArray, List.set_cons_succ, List.set_cons_zero]
     refine wpAnyK_ex (i := 4) rfl (by kernel_rfl) (listed' := #[true, true, true, true, true, false, false, false, false, false, false]) rfl (fun _ _ _ _ _ h => h) hwx ?_
     apply Exists.intro
     refine ⟨⟨by kernel_rfl, fun wy hw => ?_⟩, ?_⟩
     · (have bw := hw.below; have f5 := HTC.out _ bw; go_simp; try (first | (with_reducible rfl) | (with_reducible exact ⟨rfl, rfl⟩)))
     try simp only [Act.put, List.getElem_toArray, List.getElem_cons_succ, List.getElem_cons_zero, List.setIfInBounds_toArray, List.set_cons_succ, List.set_cons_zero]
     refine wpAnyK_fork1 5 (by kernel_rfl) ?_
     refine wpOpK_step rfl (by kernel_rfl) (listed' := #[true, true, true, true, true, true, false, false, false, false, false]) rfl (by kernel_rfl) (fun K hK => ?_)
     go_simp
     refine (HRY2.out _ hwx.below).mono ?_
     rintro e w9 ⟨rfl, hb9⟩
     have H9 := Lib.hid (below_up8 hwx.below hb9)
     refine hK _ _ H9.out ?_
     clear hK K hb9
     try simp only [Act.put, List.getElem_toArray, List.getElem_cons_succ, List.getElem_cons_zero, List.setIfInBounds_toArray, List.set_cons_succ, List.set_cons_zero]
     refine wpAnyK_ex (i := 6) rfl (by kernel_rfl) (listed' := #[true, true, true, true, true, true, true, false, false, false, false]) rfl (fun _ _ _ _ _ h => h) H9.out ?_
     apply Exists.intro
     refine ⟨⟨by kernel_rfl, fun wy hw => ?_⟩, ?_⟩
     · (have bw := hw.below; go_simp; try (first | (with_reducible rfl) | (with_reducible exact ⟨rfl, rfl⟩)))
     try simp only [Act.put, List.getElem_toArray, List.getElem_cons_succ, List.getElem_cons_zero, List.setIfInBounds_toArray, List.set_cons_succ, List.set_cons_zero]
     refine wpAnyK_ex (i := 7) rfl (by kernel_rfl) (listed' := #[true, true, true, true, true, true, true, true, false, false, false]) rfl (fun _ _ _ _ _ h => h) H9.out ?_
     apply Exists.intro
     refine ⟨⟨by kernel_rfl, fun wy hw => ?_⟩, ?_⟩
     · (have bw := hw.below; go_simp; try (first | (with_reducible rfl) | (with_reducible exact ⟨rfl, rfl⟩)))
     try simp only [Act.put, List.getElem_toArray, List.getElem_cons_succ, List.getElem_cons_zero, List.setIfInBounds_toArray, List.set_cons_succ, List.set_cons_zero]
     refine wpAnyK_ex (i := 8) rfl (by kernel_rfl) (listed' := #[true, true, true, true, true, true, true, true, true, false, false]) rfl (fun _ _ _ _ _ h => h) H9.out ?_
     apply Exists.intro
     refine ⟨⟨by kernel_rfl, fun wy hw => ?_⟩, ?_⟩
     · (have bw := hw.below; go_simp; try (first | (with_reducible rfl) | (with_reducible exact ⟨rfl, rfl⟩)))
     try simp only [Act.put, List.getElem_toArray, List.getElem_cons_succ, List.getElem_cons_zero, List.setIfInBounds_toArray, List.set_cons_succ, List.set_cons_zero]
     refine wpAnyK_ex (i := 9) rfl (by kernel_rfl) (listed' := #[true, true, true, true, true, true, true, true, true, true, false]) rfl (fun _ _ _ _ _ h => h) H9.out ?_
     apply Exists.intro
     refine ⟨⟨by kernel_rfl, fun wy hw => ?_⟩, ?_⟩
     · (have bw := hw.below; go_simp; try (first | (with_reducible rfl) | (with_reducible exact ⟨rfl, rfl⟩)))
     try simp only [Act.put, List.getElem_toArray, List.getElem_cons_succ, List.getElem_cons_zero, List.setIfInBounds_toArray, List.set_cons_succ, List.set_cons_zero]
     refine wpAnyK_end (by kernel_rfl) ?_
     try simp only [pickOps, List.filterMap_cons, List.filterMap_nil, List.getElem?_toArray, List.getElem?_cons_succ, List.getElem?_cons_zero]
     go_wp2_with fail
     refine NoPanic.normal ?_
     go_wp2_with fail
     go_meet
     exact ⟨rfl, rfl, H9⟩
    case rest =>
     obtain ⟨rfl, rfl, HBx⟩ := hcut
     generalize wc = wd at *
     have HBd := Lib.hid (show Below wr.heap.size wr wd from below_up8 HBY.out HBx.out)
     have p2 := (show wd.cell? ⟨g, 12 * k + 2, none⟩ = some (.int .i64 (hs[k]'HLT.out).e.tm) from (HBd.out.cell (p := ⟨g, 12 * k + 2, none⟩) hgl).trans s2)
     have p3 := (show wd.frozen? ⟨g, 12 * k + 2, none⟩ = false from (HBd.out.frozen (p := ⟨g, 12 * k + 2, none⟩) hgl).trans s3)
     clear HBx HRY2 HTC HKY HBY s2 s3
     have HEND := Lib.hid (show Below w.heap.size w wd from below_up8 HBwr.out HBd.out)
     by_cases v0 : rv < 0
     · have v0' : decide (rv < 0) = true := decide_eq_true v0
       go_wp2_with fail
       go_ret
       exact ⟨rfl, HEND.out⟩
     · have v0' : decide (rv < 0) = false := decide_eq_false v0
       by_cases v1 : 1000000 < rv
       · have v1' : decide (rv > 1000000) = true := decide_eq_true v1
         go_wp2_with fail
         go_ret
         exact ⟨rfl, HEND.out⟩
       · have v1' : decide (rv > 1000000) = false := decide_eq_false v1
         have HOd := Lib.hid (show Own KE (wd.setCell ⟨g, 12 * k + 2, none⟩ (.int .i64 rv)) w6.heap.size (.slice (some ⟨g, 0, none⟩) hs.length scp) (shK n less hs (k + 1)) from by
          rw [HRV.out]
          exact ((HO.out.1.below HBd.out (Nat.le_refl _)).put k HKS.out 2 (by decide) { (hs[k]'HLT.out).e with tm := rv } (.int .i64 rv) (by rw [HGE.out]; rfl)).1)
         go_wp2_with fail
         go_roundw
         case rel => exact ⟨k + 1, by go_num, HLT.out, Lib.hid ⟨HOd.out, fun j hj hjk => by
          rcases Nat.lt_or_ge j k with h | h
          · exact HO.out.2 j hj h
          · obtain rfl : j = k := by omega
            rw [← HRE.out]; omega⟩, Lib.hid ((HB.out.trans (HBd.out.mono HB.out.size)).setCell hgb _)⟩
         case measure => have h9 := HLT.out; simp [RowKit.intOf]; omega
  · have hke : k = hs.length := by omega
    have hki : ¬ (k : Int) < (hs.length : Int) := by omega
    have HK9 := Lib.hid (HK6.out.below HB.out)
    have f0 := (show wr.cell? ⟨Q, 0, none⟩ = some (.slice x1 f.dr.length k1) from (HK9.out 0 (by simp)).1)
    have f1 := (show wr.cell? ⟨Q, 1, none⟩ = some (.int .i64 f.lat) from (HK9.out 1 (by simp)).1)
    have f2 := (show wr.cell? ⟨Q, 2, none⟩ = some (.int .i64 f.lia) from (HK9.out 2 (by simp)).1)
    have f3 := (show wr.cell? ⟨Q, 3, none⟩ = some (.slice x2 f.sv.length k2) from (HK9.out 3 (by simp)).1)
    have f4 := (show wr.cell? ⟨Q, 4, none⟩ = some (.slice x3 f.tm.length k3) from (HK9.out 4 (by simp)).1)
    have HCB := Lib.hid (show Calls Tryd.prog 21 #[.agg #[.slice x1 f.dr.length k1, .int .i64 f.lat, .int .i64 f.lia, .slice x2 f.sv.length k2, .slice x3 f.tm.length k3], .slice sad hs.length scp, .slice a5 hs.length c5, .int .i64 63] wr (fun e w' => e = .returned (.bool true) ∧ Below wr.heap.size wr w') from by
     obtain ⟨sad', scp', e9, _, hr9⟩ := HO.out.1.rn
     rw [hke, shK_all] at e9 hr9
     have hlz : ((hs.map (shH n less)).map (·.e)).length = hs.length := by simp
     rw [hlz] at e9
     injection e9 with e1 e2 e3
     subst e1 e3
     have h := HAG _ f sad a5 scp c5 ((hs.map (shH n less)).map (·.e)) (hs.map (·.t)) 63 wr HFT.out (by rw [hlz]; exact HMX.out) (by rw [List.length_map]; exact HMX.out) (by rw [← shK_all]; exact HWF.out.2 _) (HRY.out _ HBwr.out) (HR.out.1.below HB2r.out) hr9.rl (HR.out.2.2.1.below HB2r.out)
     rw [hlz, List.length_map, HSM.out (fun h hh => by
      obtain ⟨j, hj, rfl⟩ := List.getElem_of_mem hh
      exact HO.out.2 j hj (by omega))] at h
     exact h)
    clear hke hlt
    go_wp2_with fail
    refine HCB.out.mono ?_
    rintro e wz ⟨rfl, hb⟩
    have HZZ := Lib.hid (below_up8 HBwr.out hb)
    clear hb f0 f1 f2 f3 f4
    go_wp2_with fail
    go_ret
    exact ⟨rfl, HZZ.out⟩
end Go.Proofs.YtamefmojocegkaaDoor
