/-
  Layer 9, the program: the iterator of parts. Layer 9, the program: Split. Layer 9, the program: require, number: what gives up by a panic. Layer 9, the program: fill: numbers read one after the other into variables. Layer 9, the program: an event read. Layer 9, the program: an event decoded; what is not there is recovered from. Layer 9, the program: the head and the batch that are read.
-/
import Derived.Test.YtnpfhcnjkekhbaaGreatDoorProg
import Derived.Test.YtnpfhcnjkekhbaaGreatDoorK04
import Derived.Test.YtnpfhcnjkekhbaaGreatDoorK24
import Derived.Sort.CutIn
import Derived.Shelf.Strings.BuilderK
import Derived.Shelf.Strings.Repeat
import Derived.Maps.Own
import Derived.Maps.OwnOps
import Derived.Laws.Rows
import Derived.Laws.OwnMore
import Derived.OwnWalk
import Derived.WalkKit
import Derived.WalkLawsBesides
import Derived.Outline
import Derived.Lib.Hide
import Derived.Below
import Derived.BigQuiet
import Derived.Deep.QuietTactic
import Derived.Deep.RegionHeld3
import Derived.Lib.QuietBelow
import Derived.Deep.DeepCutAuto
import Derived.StillTail
import Derived.Lib.Varint
import Derived.Lib.SlBytesRow
import Derived.Shelf.Abstract
import Derived.OwnWalkIn
import Derived.TacticsInMore
import Derived.LoopNIn
import Derived.LoopIn
import Derived.RangeFuncNested
import Derived.RangeFuncBound
import Derived.RangeFuncCalls
import Derived.RangeFuncLeaves
import Derived.RangeFuncBox
import Derived.Lib.ConvBytes
import Derived.DefersIn
import Derived.Laws.CopyOwn
import Derived.RegionTactic
import Derived.ChangeAlike
import Derived.Deep.RegionWith
import Derived.Deep.CutRange
import Derived.IntWalk
import Derived.Lib.EndianBits
import Derived.Lib.Strings
import Derived.ControlIn
import Derived.WalkMore
import Derived.Lib.SliceRun
import Derived.RangeFuncRecord
import Derived.Shelf.LaysM
import Derived.Shelf.Strconv.Clone
import Derived.RangeFuncFrom
import Derived.TacticsIn
import Derived.OrdersIn
import Derived.Defers
import Derived.Recover
set_option maxRecDepth 100000
set_option maxHeartbeats 16000000
namespace Go.Proofs.YtnpfhcnjkekhbaaGreatDoor
open Go Go.Proofs Go.RowKit Go.Lib Go.Sort
open W1 (clone_any)
attribute [local go_sem] Oper.semAt_some
def Drew9 (w A : World) : Prop := A = { w with drawn := w.drawn + 1 }
theorem Drew9.below {w A : World} (h : Drew9 w A) : Below w.heap.size w A := by
 rw [h]
 exact Grew.below (grew0 w)
theorem btcopy9 (W : World) (b : BV) : ∃ w3 w4, W.alloc (.cells #[.int .i64 0, .int .i64 0, .slice none 0 0, .int .i64 0, .string ⟨#[]⟩] 26) = w3 ∧ w3.heap.size = W.heap.size + 1 ∧
 ((w3.cell? ⟨W.heap.size, 0, none⟩ = some (.int .i64 0) ∧ w3.frozen? ⟨W.heap.size, 0, none⟩ = false) ∧ (w3.cell? ⟨W.heap.size, 1, none⟩ = some (.int .i64 0) ∧ w3.frozen? ⟨W.heap.size, 1, none⟩ = false) ∧ (w3.cell? ⟨W.heap.size, 2, none⟩ = some (.slice none 0 0) ∧ w3.frozen? ⟨W.heap.size, 2, none⟩ = false) ∧
  (w3.cell? ⟨W.heap.size, 3, none⟩ = some (.int .i64 0) ∧ w3.frozen? ⟨W.heap.size, 3, none⟩ = false) ∧ (w3.cell? ⟨W.heap.size, 4, none⟩ = some (.string ⟨#[]⟩) ∧ w3.frozen? ⟨W.heap.size, 4, none⟩ = false)) ∧
 (((((w3.setCell ⟨W.heap.size, 0, none⟩ (.int .i64 b.ag)).setCell ⟨W.heap.size, 1, none⟩ (.int .i64 b.fs)).setCell ⟨W.heap.size, 2, none⟩ (.slice b.ad b.n b.c)).setCell ⟨W.heap.size, 3, none⟩ (.int .i64 b.lw)).setCell ⟨W.heap.size, 4, none⟩ (.string b.hd)) = w4 ∧
 CellsAt w4 W.heap.size b.cells ∧ Below W.heap.size W w4 ∧ w4.heap.size = W.heap.size + 1 := by
 obtain ⟨w3, V3, Z3, K3, B3⟩ := lay8 W [.int .i64 0, .int .i64 0, .slice none 0 0, .int .i64 0, .string ⟨#[]⟩] 26
 exact ⟨w3, _, V3, Z3, ⟨K3 0 (by simp), K3 1 (by simp), K3 2 (by simp), K3 3 (by simp), K3 4 (by simp)⟩, rfl, ((((K3.put 0 _).put 1 _).put 2 _).put 3 _).put 4 _, ((((B3.setCell (Nat.le_refl _) _).setCell (Nat.le_refl _) _).setCell (Nat.le_refl _) _).setCell (Nat.le_refl _) _).setCell (Nat.le_refl _) _, by simp [Z3]⟩
theorem repeat_zz : (⟨(Lib.repeatL (⟨#[0]⟩ : ByteArray).data.toList 32).toArray⟩ : ByteArray) = zz32 := by rfl
theorem parts_seq (m lid p : Nat) (ag : Int) (ad : Option Addr) (c : Nat) (l : List Ev) (xad : Option Addr) (xc : Nat) (x : List Int) (yad : Option Addr) (yc : Nat) (y : List Int) (w W : World)
 (hl : l.length ≤ 1000) (hlc : l.length ≤ c) (hnil : ad = none → c = 0) (hxn : x.length ≤ 200) (hxb : ∀ v ∈ x, 0 ≤ v ∧ v ≤ 24) (hxs : x.sum = (l.length : Int)) (hyn : y.length = x.length) (hev : ∀ e ∈ l, evB e = true)
 (hD : Ready w) (hI : RL KE w ad l) (hX : RL KI w xad x) (hY : RL KI w yad y) (hp : w.heap.size ≤ p) (hpW : p + 4 ≤ W.heap.size) (hB : Below w.heap.size w W)
 (q0 : W.cell? ⟨p, 0, none⟩ = some (.int .i64 ag)) (q1 : W.cell? ⟨p + 1, 0, none⟩ = some (.slice ad l.length c)) (q2 : W.cell? ⟨p + 1 + 1, 0, none⟩ = some (.slice xad x.length xc)) (q3 : W.cell? ⟨p + 1 + 1 + 1, 0, none⟩ = some (.slice yad y.length yc))
 (F : Nat → Option Addr) (hF : ∀ i, i < x.length → ∀ w, (Instr.slice KE.st (.slice ad l.length c) (some (.int .i64 (endK x (i + 1)))) none none).run Tryz.prog w = .ok (.slice (F i) (l.length - (endK x (i + 1)).toNat) (c - (endK x (i + 1)).toNat)) w)
 (J Jx : List PV → World → Prop) (hJ : ∀ s A B, J s A → Below A.heap.size A B → J s B) (hJx : ∀ s A B, Jx s A → Below A.heap.size A B → Jx s B)
 (hYd : ∀ pre (q : PV) A, J pre A → (q.i = pre.length ∧ q.i < x.length) → YieldAt Fence.wide (m - 1) Tryz.prog lid #[(q.bv ag x y).val, .slice (F q.i) (l.length - (endK x (q.i + 1)).toNat) (c - (endK x (q.i + 1)).toNat)] A fun e A' =>
  (e = .returned (.bool true) ∧ J (pre ++ [q]) A' ∧ Kp9 w.heap.size p A A') ∨ (e = .returned (.bool false) ∧ Jx (pre ++ [q]) A'))
 (h0 : J [] W) :
 CallsIn Fence.wide m Tryz.prog 83 #[.func (.yield lid) #[] #[], .pointer (some ⟨p + 1 + 1, 0, none⟩), .pointer (some ⟨p + 1, 0, none⟩), .pointer (some ⟨p, 0, none⟩), .pointer (some ⟨p + 1 + 1 + 1, 0, none⟩)] W
  fun e W' => (∃ v, e = .returned v) ∧ ((∃ ps : List PV, (ps.length = x.length ∧ Tp9 (p + 4) l x ps W') ∧ J ps W') ∨ ∃ pre, Jx pre W') := by
 have HJ := Lib.hid hJ; have HJX := Lib.hid hJx; have HYD := Lib.hid hYd; have H0 := Lib.hid h0; have HFF := Lib.hid hF
 have HDD := Lib.hid hD; have HI := Lib.hid hI; have HEV := Lib.hid hev
 have HXC := Lib.hid (fun k hk => hX.int k hk); have HYC := Lib.hid (fun k hk => hY.int k hk)
 have HB0 := Lib.hid hB
 have hx0 : ∀ v ∈ x, 0 ≤ v := fun v hv => (hxb v hv).1
 have HEN := Lib.hid (show ∀ k, 0 ≤ endK x k ∧ endK x k ≤ (l.length : Int) from fun k => ⟨endK_nonneg hx0 k, by have := endK_le hx0 k; rw [hxs] at this; exact this⟩)
 have HES := Lib.hid (show ∀ k, k < x.length → endK x (k + 1) = endK x k + x.getD k 0 from fun k hk => endK_getD hk)
 have HXB := Lib.hid (show ∀ k, k < x.length → 0 ≤ x.getD k 0 ∧ x.getD k 0 ≤ 24 from fun k hk => hxb _ (getD_mem8 hk))
 have HCUT := Lib.hid (show ∀ k, k < x.length → _ from fun k hk => RowK.cut9 KE ad l.length c (endK x k) (endK x (k + 1)) (HEN.out k).1 (by have := HES.out k hk; have := HXB.out k hk; omega) (HEN.out (k + 1)).2 hlc hnil)
 have HLN := Lib.hid hl; have HXN := Lib.hid hxn
 have HPS := Lib.hid (show ∀ k, k < x.length → chH chainF zz32 (l.take (endK x (k + 1)).toNat) = chH chainF (chH chainF zz32 (l.take (endK x k).toNat)) (evP l x k) from fun k hk => by
  rw [← chH_append]
  have h1 := (HEN.out k).1; have h2 := HES.out k hk; have h3 := HXB.out k hk
  rw [h2, show (endK x k + x.getD k 0).toNat = (endK x k).toNat + (x.getD k 0).toNat by omega]
  unfold evP
  rw [List.take_add])
 have HEL := Lib.hid (show ∀ k, k < x.length → (evP l x k).length = (x.getD k 0).toNat ∧ (evP l x k).length = (endK x (k + 1)).toNat - (endK x k).toNat from fun k hk => by
  have h1 := (HEN.out k).1; have h2 := HES.out k hk; have h3 := HXB.out k hk; have h4 := (HEN.out (k + 1)).2
  unfold evP
  rw [List.length_take, List.length_drop]
  omega)
 have HEE := Lib.hid (show ∀ k, k < x.length → evP l x k = (l.drop (endK x k).toNat).take ((endK x (k + 1)).toNat - (endK x k).toNat) from fun k hk => by
  have h1 := (HEN.out k).1; have h2 := HES.out k hk; have h3 := HXB.out k hk
  unfold evP
  congr 1
  omega)
 have HPZ := Lib.hid (show chH chainF zz32 (l.take (endK x 0).toNat) = zz32 from rfl)
 have HPB := Lib.hid (show ∀ k, (chH chainF zz32 (l.take (endK x k).toNat)).size ≤ 1000000 from fun k => chH_le (by rw [zz32_size]; decide) _)
 obtain ⟨P, hPd⟩ : ∃ P : Nat → ByteArray, P = fun k => chH chainF zz32 (l.take (endK x k).toNat) := ⟨_, rfl⟩
 have HPS := Lib.hid (show ∀ k, k < x.length → P (k + 1) = chH chainF (P k) (evP l x k) from by rw [hPd]; exact HPS.out)
 have HPZ := Lib.hid (show P 0 = zz32 from by rw [hPd]; exact HPZ.out)
 have HPB := Lib.hid (show ∀ k, (P k).size ≤ 1000000 from by rw [hPd]; exact HPB.out)
 have HPD := Lib.hid hPd
 clear hJ hJx hYd h0 hF hD hI hev hX hY hB hx0 hxb hxs hnil hPd
 refine callsIn_of_wp Tryz.func83 rfl trivial ?_ rfl
 simp only [Tryz.ntmps83, List.size_toArray, List.length_cons, List.length_nil, Nat.reduceAdd, Nat.reduceSub, Array.replicate_succ, Array.replicate_zero, List.push_toArray, List.append_toArray, List.nil_append, List.cons_append]
 gi_wp2_with fail
 refine ⟨trivial, (fun h => by cases h), ?_⟩
 gi_at_call 84
 refine (callsIn_wide.2 (repeat9 (⟨#[0]⟩ : ByteArray) 32 _ (by decide) (by decide))).mono ?_
 rintro e z ⟨rfl, bz⟩
 rw [repeat_zz]
 have HZ := Lib.hid (below_up8 HB0.out bz)
 have r0 : z.cell? ⟨p, 0, none⟩ = some (.int .i64 ag) := (bz.cell (p := ⟨p, 0, none⟩) (by show p < _; omega)).trans q0
 have r1 : z.cell? ⟨p + 1, 0, none⟩ = some (.slice ad l.length c) := (bz.cell (p := ⟨p + 1, 0, none⟩) (by show p + 1 < _; omega)).trans q1
 have r2 : z.cell? ⟨p + 1 + 1, 0, none⟩ = some (.slice xad x.length xc) := (bz.cell (p := ⟨p + 1 + 1, 0, none⟩) (by show p + 1 + 1 < _; omega)).trans q2
 have r3 : z.cell? ⟨p + 1 + 1 + 1, 0, none⟩ = some (.slice yad y.length yc) := (bz.cell (p := ⟨p + 1 + 1 + 1, 0, none⟩) (by show p + 1 + 1 + 1 < _; omega)).trans q3
 have HJ0 := Lib.hid (HJ.out _ _ _ H0.out bz)
 have hpz : p + 4 ≤ z.heap.size := by have := bz.size; omega
 rw [← HPZ.out]
 clear bz q0 q1 q2 q3 H0 HB0 hpW
 gi_wp2
 gi_loopw [6, 7, 16] (fun f h i wr => ∃ ps : List PV, i = .int .i64 (ps.length : Nat) ∧ ps.length ≤ x.length ∧ f = .int .i64 (endK x ps.length) ∧ h = .string (P ps.length) ∧ Hid (J ps wr) ∧ Hid (Tp9 (p + 4) l x ps wr) ∧ Hid (Below w.heap.size w wr) ∧
  wr.cell? ⟨p, 0, none⟩ = some (.int .i64 ag) ∧ wr.cell? ⟨p + 1, 0, none⟩ = some (.slice ad l.length c) ∧ wr.cell? ⟨p + 1 + 1, 0, none⟩ = some (.slice xad x.length xc) ∧ wr.cell? ⟨p + 1 + 1 + 1, 0, none⟩ = some (.slice yad y.length yc) ∧ p + 4 ≤ wr.heap.size) (fun _ _ i _ => x.length - (RowKit.intOf i).toNat)
 case atStart => exact ⟨[], rfl, Nat.zero_le _, rfl, rfl, HJ0, Lib.hid (fun j hj => by simp at hj), HZ, r0, r1, r2, r3, hpz⟩
 case round =>
  clear r0 r1 r2 r3 hpz HZ HJ0
  obtain ⟨ps, rfl, hk, rfl, rfl, HJP, HT, HB, r0, r1, r2, r3, hpz⟩ := hrel
  obtain ⟨k, hkk⟩ : ∃ k, k = ps.length := ⟨_, rfl⟩
  have HK := Lib.hid hkk
  rw [← hkk] at hk ⊢
  clear hkk
  by_cases hlt : k < x.length
  · have hki : (k : Int) < (x.length : Int) := by omega
    obtain ⟨xb, xo, rfl, _, hxc⟩ := HXC.out k hlt
    have c0 := hxc wr HB.out
    have hik := fun W => at_int8 xb xo x.length xc k hlt W
    have hgd : x[k]'hlt = x.getD k 0 := by rw [List.getD_eq_getElem?_getD, List.getElem?_eq_getElem hlt]; rfl
    rw [hgd] at c0
    have hen := HEN.out k; have hen1 := HEN.out (k + 1)
    have hes := HES.out k hlt
    have hxk := HXB.out k hlt
    have hl1000 := HLN.out
    have hws : IntKind.i64.wrap (endK x k + x.getD k 0) = endK x (k + 1) := by rw [hes]; exact wrapq8 (by omega)
    obtain ⟨CA, hcA, hcB, hcC⟩ := HCUT.out k hlt
    obtain ⟨hel1, hel2⟩ := HEL.out k hlt
    have HCB := Lib.hid (show ∀ W, Below w.heap.size w W → RL KE W CA (evP l x k) from fun W b => by rw [HEE.out k hlt]; exact hcB W l (HI.out.below b) rfl)
    have HCC := Lib.hid hcC
    have hcA := (show ∀ W, (Instr.slice 24 (.slice ad l.length c) (some (.int .i64 (endK x k))) (some (.int .i64 (endK x (k + 1)))) none).run Tryz.prog W = .ok (.slice CA (evP l x k).length (c - (endK x k).toNat)) W from fun W => by rw [hel2]; exact hcA W)
    have hfA := (show ∀ W, (Instr.slice 24 (.slice ad l.length c) (some (.int .i64 (endK x (k + 1)))) none none).run Tryz.prog W = .ok (.slice (F k) (l.length - (endK x (k + 1)).toNat) (c - (endK x (k + 1)).toNat)) W from HFF.out k hlt)
    have HEB := Lib.hid (show ∀ e ∈ evP l x k, evB e = true from fun e he => HEV.out e (List.mem_of_mem_drop (List.mem_of_mem_take he)))
    have HPK := Lib.hid (HPS.out k hlt)
    have HPKB := Lib.hid (HPB.out k)
    have HPKD := Lib.hid (show P (k + 1) = chH chainF zz32 (l.take (endK x (k + 1)).toNat) from by rw [HPD.out])
    have HEL1 := Lib.hid hel1
    have HEK1 := Lib.hid (show (evP l x k).length ≤ 24 from by omega)
    have HLT := Lib.hid hlt
    have HYK := Lib.hid (show ∃ b o, yad = some ⟨b, o, none⟩ ∧ ∀ W', Below w.heap.size w W' → W'.cell? ⟨b, o + k, none⟩ = some (.int .i64 (y.getD k 0)) from by
     have hky : k < y.length := by rw [hyn]; exact hlt
     obtain ⟨b, o, h1, _, h3⟩ := HYC.out k hky
     refine ⟨b, o, h1, fun W' hb => ?_⟩
     have h4 := h3 W' hb
     rw [show y[k]'hky = y.getD k 0 by rw [List.getD_eq_getElem?_getD, List.getElem?_eq_getElem hky]; rfl] at h4
     exact h4)
    have HHYG := Lib.hid (HYK.out)
    obtain ⟨XK, hXK⟩ : ∃ XK, XK = x.getD k 0 := ⟨_, rfl⟩
    obtain ⟨E0, hE0⟩ : ∃ E0, E0 = endK x k := ⟨_, rfl⟩
    obtain ⟨E1, hE1⟩ : ∃ E1, E1 = endK x (k + 1) := ⟨_, rfl⟩
    obtain ⟨EV, hEV⟩ : ∃ EV, EV = evP l x k := ⟨_, rfl⟩
    obtain ⟨PK, hPK⟩ : ∃ PK, PK = P k := ⟨_, rfl⟩
    obtain ⟨YK, hYK⟩ : ∃ YK, YK = y.getD k 0 := ⟨_, rfl⟩
    have HXK := Lib.hid hXK; have HE0 := Lib.hid hE0; have HE1 := Lib.hid hE1; have HEVE := Lib.hid hEV; have HPKE := Lib.hid hPK; have HYKE := Lib.hid hYK
    rw [← hXK] at c0 hes hxk hws
    rw [← hE0] at hen hes hws hcA ⊢
    rw [← hE1] at hen1 hes hws hcA hfA
    rw [← hEV] at HCB hcA HEB HPK HEL1 HEK1
    rw [← hPK] at HPK HPKB ⊢
    rw [← hYK] at HYK
    have HCC := Lib.hid (show CA = none → c - E0.toNat = 0 from by rw [hE0]; exact HCC.out)
    have HES1 := Lib.hid hes
    clear hes
    clear hxc hgd hcB hcC hel1 hel2 hlt hXK hE0 hE1 hEV hPK hYK
    gi_upto_region 5 with fail
    gi_cut [11] from 24 (fun v wx => ∃ ad2 c2, v = .slice ad2 EV.length c2 ∧ EV.length ≤ c2 ∧ Hid (Own KE wx wr.heap.size (.slice ad2 EV.length c2) EV) ∧ Hid (Below wr.heap.size wr wx))
    case first =>
     rename_i J2 K2 hJ2 hK2
     refine wpIn_wide.2 ?_
     go_wp2_with (at_builtin; refine walk_arg8 KE rfl _ _ rfl wr.heap.size (.slice none 0 0) EV rfl (Own.nil _ _ _) (Nat.le_refl _) CA (c - E0.toNat) rfl (HCB.out _ HB.out) HCC.out (by have := HEK1.out; omega) ?_; intro v9 w9 ho9 hb9)
     obtain ⟨ad9, c9, e9, hc9⟩ := ho9.form
     subst e9
     refine Met.intro (hJ2 _ _ ?_)
     (repeat apply Exists.intro)
     refine ⟨?rel, rfl⟩
     case rel => exact ⟨ad9, c9, rfl, hc9, Lib.hid ho9, Lib.hid hb9⟩
    case rest =>
    obtain ⟨ad2, c2, rfl, hc2, HO, HB5⟩ := hcut
    generalize wc = w5 at *
    have HB6 := Lib.hid (below_up8 HB.out HB5.out)
    have r0 : w5.cell? ⟨p, 0, none⟩ = some (.int .i64 ag) := (HB5.out.cell (p := ⟨p, 0, none⟩) (by show p < _; omega)).trans r0
    have r1 : w5.cell? ⟨p + 1, 0, none⟩ = some (.slice ad l.length c) := (HB5.out.cell (p := ⟨p + 1, 0, none⟩) (by show p + 1 < _; omega)).trans r1
    have r2 : w5.cell? ⟨p + 1 + 1, 0, none⟩ = some (.slice (some ⟨xb, xo, none⟩) x.length xc) := (HB5.out.cell (p := ⟨p + 1 + 1, 0, none⟩) (by show p + 1 + 1 < _; omega)).trans r2
    have r3 : w5.cell? ⟨p + 1 + 1 + 1, 0, none⟩ = some (.slice yad y.length yc) := (HB5.out.cell (p := ⟨p + 1 + 1 + 1, 0, none⟩) (by show p + 1 + 1 + 1 < _; omega)).trans r3
    have hpz5 : p + 4 ≤ w5.heap.size := by have := HB5.out.size; omega
    have HCH := Lib.hid (chain_u PK HPKB.out ad2 c2 EV (by have := HEK1.out; unfold maxLen; omega) HEB.out w5 (HDD.out.below HB6.out) (rl_own8 HO.out))
    rw [← HPK.out] at HCH
    clear c0 hik hcA hws
    gi_wp2_with fail
    refine ⟨trivial, (fun h => by cases h), ?_⟩
    gi_at_call 51
    refine (callsIn_wide.2 HCH.out).mono ?_
    rintro e w6 ⟨rfl, b6⟩
    have HB7 := Lib.hid (below_up8 HB5.out b6)
    have HO6 := Lib.hid (HO.out.below b6 (Nat.le_refl _))
    have HBW := Lib.hid (below_up8 HB6.out b6)
    have r0 : w6.cell? ⟨p, 0, none⟩ = some (.int .i64 ag) := (b6.cell (p := ⟨p, 0, none⟩) (by show p < _; omega)).trans r0
    have r1 : w6.cell? ⟨p + 1, 0, none⟩ = some (.slice ad l.length c) := (b6.cell (p := ⟨p + 1, 0, none⟩) (by show p + 1 < _; omega)).trans r1
    have r2 : w6.cell? ⟨p + 1 + 1, 0, none⟩ = some (.slice (some ⟨xb, xo, none⟩) x.length xc) := (b6.cell (p := ⟨p + 1 + 1, 0, none⟩) (by show p + 1 + 1 < _; omega)).trans r2
    have r3 : w6.cell? ⟨p + 1 + 1 + 1, 0, none⟩ = some (.slice yad y.length yc) := (b6.cell (p := ⟨p + 1 + 1 + 1, 0, none⟩) (by show p + 1 + 1 + 1 < _; omega)).trans r3
    have hpz6 : p + 4 ≤ w6.heap.size := by have := b6.size; omega
    obtain ⟨PN, hPN⟩ : ∃ PN, PN = P (k + 1) := ⟨_, rfl⟩
    have HPN := Lib.hid hPN
    rw [← hPN] at HPKD ⊢
    have HB9 := Lib.hid hpz
    clear b6 HCH HO hPN HPK HB HB5 HB6
    obtain ⟨yb, yo, rfl, hyc⟩ := HYK.out
    have HYC2 := Lib.hid hyc
    have hyk := fun W => at_int8 yb yo y.length yc k (by rw [hyn]; exact HLT.out) W
    clear hyc
    gi_upto_region 7 with fail
    have HR6 := Lib.hid (show ∀ A, Below w6.heap.size w6 A → A.cell? ⟨p, 0, none⟩ = some (.int .i64 ag) ∧ A.cell? ⟨p + 1 + 1 + 1, 0, none⟩ = some (.slice (some ⟨yb, yo, none⟩) y.length yc) ∧ A.cell? ⟨yb, yo + k, none⟩ = some (.int .i64 YK) from fun A b => ⟨(b.cell (p := ⟨p, 0, none⟩) (by show p < _; omega)).trans r0, (b.cell (p := ⟨p + 1 + 1 + 1, 0, none⟩) (by show p + 1 + 1 + 1 < _; omega)).trans r3, HYC2.out A (below_up8 HBW.out b)⟩)
    gi_cut [12] from 32 (fun q wx => ∃ D, q = .pointer (some ⟨D, 0, none⟩) ∧ w6.heap.size ≤ D ∧ D < wx.heap.size ∧ Hid (CellsAt wx D (⟨ag, E0, ad2, EV.length, c2, YK, PN⟩ : BV).cells) ∧ Hid (Below w6.heap.size w6 wx))
    case first =>
     rename_i J2 K2 hJ2 hK2
     refine wpIn_wide.2 ?_
     refine wp_region_noPanic ?_
     refine wp_region_Kx (C := Grew w6) [10] 10 #[false, false, false, false, false, false, false, false, false, false, false] (by kernel_rfl) (by kernel_rfl) (by kernel_rfl) (grew0 _) ?_
     intro wx hwx
     obtain ⟨w3, w4, V3, Z3, ⟨⟨g0, g0'⟩, ⟨g1, g1'⟩, ⟨g2, g2'⟩, ⟨g3, g3'⟩, ⟨g4, g4'⟩⟩, V4, K4, B4, Z4⟩ := btcopy9 wx (⟨ag, E0, ad2, EV.length, c2, YK, PN⟩ : BV)
     have BX := Lib.hid hwx.below
     have HK4 := Lib.hid K4
     have HB4 := Lib.hid B4
     have HA3 := Lib.hid (show Grew w6 w3 from by rw [← V3]; exact Grew.alloc hwx _)
     clear K4 B4
     refine wpAnyK_ex (i := 0) rfl (by kernel_rfl) (listed' := #[true, false, false, false, false, false, false, false, false, false, false]) rfl (fun _ _ _ _ _ h => h) hwx ?_
     apply Exists.intro
     refine ⟨⟨by kernel_rfl, fun wy hw => ?_⟩, ?_⟩
     · (have bw := hw.below; have y0 := (HR6.out wy bw).1; have y1 := (HR6.out wy bw).2.1; have y2 := (HR6.out wy bw).2.2; go_simp; try (first | (with_reducible rfl) | (with_reducible exact ⟨rfl, rfl⟩)))
     try simp only [Act.put, List.getElem_toArray, List.getElem_cons_zero, List.setIfInBounds_toArray, List.set_cons_succ, List.set_cons_zero]
     refine wpAnyK_ex (i := 1) rfl (by kernel_rfl) (listed' := #[true, true, false, false, false, false, false, false, false, false, false]) rfl (fun _ _ _ _ _ h => h) hwx ?_
     apply Exists.intro
     refine ⟨⟨by kernel_rfl, fun wy hw => ?_⟩, ?_⟩
     · (have bw := hw.below; have y0 := (HR6.out wy bw).1; have y1 := (HR6.out wy bw).2.1; have y2 := (HR6.out wy bw).2.2; go_simp; try (first | (with_reducible rfl) | (with_reducible exact ⟨rfl, rfl⟩)))
     try simp only [Act.put, List.getElem_toArray, List.getElem_cons_succ, List.getElem_cons_zero, List.setIfInBounds_toArray, List.set_cons_succ, List.set_cons_zero]
     refine wpAnyK_ex (i := 2) rfl (by kernel_rfl) (listed' := #[true, true, true, false, false, false, false, false, false, false, false]) rfl (fun _ _ _ _ _ h => h) hwx ?_
     apply Exists.intro
     refine ⟨⟨by kernel_rfl, fun wy hw => ?_⟩, ?_⟩
     · (have bw := hw.below; have y0 := (HR6.out wy bw).1; have y1 := (HR6.out wy bw).2.1; have y2 := (HR6.out wy bw).2.2; go_simp; try (first | (with_reducible rfl) | (with_reducible exact ⟨rfl, rfl⟩)))
     try simp only [Act.put, List.getElem_toArray, List.getElem_cons_succ, List.getElem_cons_zero, List.setIfInBounds_toArray, List.set_cons_succ, List.set_cons_zero]
     refine wpAnyK_ex (i := 3) rfl (by kernel_rfl) (listed' := #[true, true, true, true, false, false, false, false, false, false, false]) rfl (fun _ _ _ _ _ h => h) hwx ?_
     apply Exists.intro
     refine ⟨⟨by kernel_rfl, fun wy hw => ?_⟩, ?_⟩
     · (have bw := hw.below; have y0 := (HR6.out wy bw).1; have y1 := (HR6.out wy bw).2.1; have y2 := (HR6.out wy bw).2.2; go_simp; try (first | (with_reducible rfl) | (with_reducible exact ⟨rfl, rfl⟩)))
     try simp only [Act.put, List.getElem_toArray, List.getElem_cons_succ, List.getElem_cons_zero, List.setIfInBounds_toArray, List.set_cons_succ, List.set_cons_zero]
     refine wpAnyK_ex (i := 4) rfl (by kernel_rfl) (listed' := #[true, true, true, true, true, false, false, false, false, false, false]) rfl (fun _ _ _ _ _ h => h) hwx ?_
     apply Exists.intro
     refine ⟨⟨by kernel_rfl, fun wy hw => ?_⟩, ?_⟩
     · (have bw := hw.below; have y0 := (HR6.out wy bw).1; have y1 := (HR6.out wy bw).2.1; have y2 := (HR6.out wy bw).2.2; go_simp; try (first | (with_reducible rfl) | (with_reducible exact ⟨rfl, rfl⟩)))
     try simp only [Act.put, List.getElem_toArray, List.getElem_cons_succ, List.getElem_cons_zero, List.setIfInBounds_toArray, List.set_cons_succ, List.set_cons_zero]
     refine wpAnyK_ex (i := 5) rfl (by kernel_rfl) (listed' := #[true, true, true, true, true, true, false, false, false, false, false]) rfl (fun _ _ _ _ _ h => h) hwx ?_
     apply Exists.intro
     refine ⟨⟨by kernel_rfl, fun wy hw => ?_⟩, ?_⟩
     · (have bw := hw.below; have y0 := (HR6.out wy bw).1; have y1 := (HR6.out wy bw).2.1; have y2 := (HR6.out wy bw).2.2; go_simp; try (first | (with_reducible rfl) | (with_reducible exact ⟨rfl, rfl⟩)))
     try simp only [Act.put, List.getElem_toArray, List.getElem_cons_succ, List.getElem_cons_zero, List.setIfInBounds_toArray, List.set_cons_succ, List.set_cons_zero]
     refine wpAnyK_ex (i := 6) rfl (by kernel_rfl) (listed' := #[true, true, true, true, true, true, true, false, false, false, false]) rfl (fun _ _ _ _ _ h => h) hwx ?_
     apply Exists.intro
     refine ⟨⟨by kernel_rfl, fun wy hw => ?_⟩, ?_⟩
     · (have bw := hw.below; have y0 := (HR6.out wy bw).1; have y1 := (HR6.out wy bw).2.1; have y2 := (HR6.out wy bw).2.2; go_simp; try (first | (with_reducible rfl) | (with_reducible exact ⟨rfl, rfl⟩)))
     try simp only [Act.put, List.getElem_toArray, List.getElem_cons_succ, List.getElem_cons_zero, List.setIfInBounds_toArray, List.set_cons_succ, List.set_cons_zero]
     refine wpAnyK_ex (i := 7) rfl (by kernel_rfl) (listed' := #[true, true, true, true, true, true, true, true, false, false, false]) rfl (fun _ _ _ _ _ h => h) hwx ?_
     apply Exists.intro
     refine ⟨⟨by kernel_rfl, fun wy hw => ?_⟩, ?_⟩
     · (have bw := hw.below; have y0 := (HR6.out wy bw).1; have y1 := (HR6.out wy bw).2.1; have y2 := (HR6.out wy bw).2.2; go_simp; try (first | (with_reducible rfl) | (with_reducible exact ⟨rfl, rfl⟩)))
     try simp only [Act.put, List.getElem_toArray, List.getElem_cons_succ, List.getElem_cons_zero, List.setIfInBounds_toArray, List.set_cons_succ, List.set_cons_zero]
     refine wpAnyK_ex (i := 8) rfl (by kernel_rfl) (listed' := #[true, true, true, true, true, true, true, true, true, false, false]) rfl (fun _ _ _ _ _ h => h) hwx ?_
     apply Exists.intro
     refine ⟨⟨by kernel_rfl, fun wy hw => ?_⟩, ?_⟩
     · (have bw := hw.below; have y0 := (HR6.out wy bw).1; have y1 := (HR6.out wy bw).2.1; have y2 := (HR6.out wy bw).2.2; go_simp; try (first | (with_reducible rfl) | (with_reducible exact ⟨rfl, rfl⟩)))
     try simp only [Act.put, List.getElem_toArray, List.getElem_cons_succ, List.getElem_cons_zero, List.setIfInBounds_toArray, List.set_cons_succ, List.set_cons_zero]
     refine wpAnyK_fork1 9 (by kernel_rfl) ?_
     refine wpOpK_step rfl (by kernel_rfl) (listed' := #[true, true, true, true, true, true, true, true, true, true, false]) rfl (by kernel_rfl) (fun K hK => ?_)
     go_simp
     refine hK _ _ HA3.out ?_
     clear hK K
     try simp only [Act.put, List.getElem_toArray, List.getElem_cons_succ, List.getElem_cons_zero, List.setIfInBounds_toArray, List.set_cons_succ, List.set_cons_zero]
     refine wpAnyK_end (by kernel_rfl) ?_
     try simp only [pickOps, List.filterMap_cons, List.filterMap_nil, List.getElem?_toArray, List.getElem?_cons_succ, List.getElem?_cons_zero]
     go_wp2_with fail
     refine NoPanic.normal ?_
     refine hK2 _ _ (Met.intro (hJ2 _ _ ?_))
     (repeat apply Exists.intro)
     refine ⟨?rel, rfl⟩
     case rel => exact ⟨wx.heap.size, rfl, BX.out.size, by omega, HK4, Lib.hid (BX.out.trans (HB4.out.mono BX.out.size))⟩
    case rest =>
    obtain ⟨D, rfl, hD1, hD2, HKD, HBD⟩ := hcut
    generalize wc = w7 at *
    have HBZ := Lib.hid (below_up8 HB7.out HBD.out)
    have HBZW := Lib.hid (below_up8 HBW.out HBD.out)
    have HO7 := Lib.hid (HO6.out.below HBD.out (Nat.le_refl _))
    have HR7 := Lib.hid (show ∀ A, Below w7.heap.size w7 A → A.cell? ⟨D, 0, none⟩ = some (.int .i64 ag) ∧ A.cell? ⟨D, 1, none⟩ = some (.int .i64 E0) ∧ A.cell? ⟨D, 2, none⟩ = some (.slice ad2 EV.length c2) ∧ A.cell? ⟨D, 3, none⟩ = some (.int .i64 YK) ∧ A.cell? ⟨D, 4, none⟩ = some (.string PN) ∧ A.cell? ⟨p + 1, 0, none⟩ = some (.slice ad l.length c) from fun A b => by
     have K := HKD.out.up b (by omega)
     exact ⟨(K 0 (by simp [BV.cells])).1, (K 1 (by simp [BV.cells])).1, (K 2 (by simp [BV.cells])).1, (K 3 (by simp [BV.cells])).1, (K 4 (by simp [BV.cells])).1, (b.cell (p := ⟨p + 1, 0, none⟩) (by show p + 1 < _; have := HBD.out.size; omega)).trans ((HBD.out.cell (p := ⟨p + 1, 0, none⟩) (by show p + 1 < _; omega)).trans r1)⟩)
    have HP7 := Lib.hid (show ∀ j, j < 4 → ∀ A, Below w7.heap.size w7 A → p + j < A.heap.size from fun j hj A b => by have := b.size; have := HBD.out.size; omega)
    have HQ7 := Lib.hid (show w7.cell? ⟨p, 0, none⟩ = some (.int .i64 ag) ∧ w7.cell? ⟨p + 1, 0, none⟩ = some (.slice ad l.length c) ∧ w7.cell? ⟨p + 1 + 1, 0, none⟩ = some (.slice (some ⟨xb, xo, none⟩) x.length xc) ∧ w7.cell? ⟨p + 1 + 1 + 1, 0, none⟩ = some (.slice (some ⟨yb, yo, none⟩) y.length yc) from
     ⟨(HBD.out.cell (p := ⟨p, 0, none⟩) (by show p < _; omega)).trans r0, (HBD.out.cell (p := ⟨p + 1, 0, none⟩) (by show p + 1 < _; omega)).trans r1, (HBD.out.cell (p := ⟨p + 1 + 1, 0, none⟩) (by show p + 1 + 1 < _; omega)).trans r2, (HBD.out.cell (p := ⟨p + 1 + 1 + 1, 0, none⟩) (by show p + 1 + 1 + 1 < _; omega)).trans r3⟩)
    have HVAL := Lib.hid (show (PV.bv ag x y ⟨k, ad2, c2, PN⟩).val = .agg #[.int .i64 ag, .int .i64 E0, .slice ad2 EV.length c2, .int .i64 YK, .string PN] from by
     show Value.agg #[.int .i64 ag, .int .i64 (endK x k), .slice ad2 (x.getD k 0).toNat c2, .int .i64 (y.getD k 0), .string PN] = _
     rw [← HE0.out, ← HYKE.out, HEL1.out])
    have HYQ := Lib.hid (show ∀ A, J ps A → YieldAt Fence.wide (m - 1) Tryz.prog lid #[.agg #[.int .i64 ag, .int .i64 E0, .slice ad2 EV.length c2, .int .i64 YK, .string PN], .slice (F k) (l.length - E1.toNat) (c - E1.toNat)] A fun e A' =>
     (e = .returned (.bool true) ∧ J (ps ++ [⟨k, ad2, c2, PN⟩]) A' ∧ Kp9 w.heap.size p A A') ∨ (e = .returned (.bool false) ∧ Jx (ps ++ [⟨k, ad2, c2, PN⟩]) A') from fun A hA => by
     have := HYD.out ps ⟨k, ad2, c2, PN⟩ A hA ⟨HK.out, HLT.out⟩
     rw [HVAL.out] at this
     dsimp only at this
     rw [← HE1.out] at this
     exact this)
    have hszD := HBD.out.size
    clear r0 r1 r2 r3 hyk HR6 HVAL
    gi_upto_region 8 with fail
    refine wpIn_region_K9 (C := Drew9 w7) [5, 6] 5 #[false, false, false, false, false, false, false] (by kernel_rfl) (by kernel_rfl) (by kernel_rfl) rfl ?_
    intro wx hwx
    refine wpAnyK_ex (i := 0) rfl (by kernel_rfl) (listed' := #[true, false, false, false, false, false, false]) rfl (fun _ _ _ _ _ h => h) hwx ?_
    apply Exists.intro
    refine ⟨⟨by kernel_rfl, fun wy hw => ?_⟩, ?_⟩
    · (have bw := hw.below; have y0 := (HR7.out wy bw).1; have y1 := (HR7.out wy bw).2.1; have y2 := (HR7.out wy bw).2.2.1; have y3 := (HR7.out wy bw).2.2.2.1; have y4 := (HR7.out wy bw).2.2.2.2.1; have y5 := (HR7.out wy bw).2.2.2.2.2; go_simp; try (first | (with_reducible rfl) | (with_reducible exact ⟨rfl, rfl⟩)))
    try simp only [Act.put, List.getElem_toArray, List.getElem_cons_zero, List.setIfInBounds_toArray, List.set_cons_succ, List.set_cons_zero]
    refine wpAnyK_ex (i := 1) rfl (by kernel_rfl) (listed' := #[true, true, false, false, false, false, false]) rfl (fun _ _ _ _ _ h => h) hwx ?_
    apply Exists.intro
    refine ⟨⟨by kernel_rfl, fun wy hw => ?_⟩, ?_⟩
    · (have bw := hw.below; have y0 := (HR7.out wy bw).1; have y1 := (HR7.out wy bw).2.1; have y2 := (HR7.out wy bw).2.2.1; have y3 := (HR7.out wy bw).2.2.2.1; have y4 := (HR7.out wy bw).2.2.2.2.1; have y5 := (HR7.out wy bw).2.2.2.2.2; go_simp; try (first | (with_reducible rfl) | (with_reducible exact ⟨rfl, rfl⟩)))
    try simp only [Act.put, List.getElem_toArray, List.getElem_cons_succ, List.getElem_cons_zero, List.setIfInBounds_toArray, List.set_cons_succ, List.set_cons_zero]
    refine wpAnyK_ex (i := 2) rfl (by kernel_rfl) (listed' := #[true, true, true, false, false, false, false]) rfl (fun _ _ _ _ _ h => h) hwx ?_
    apply Exists.intro
    refine ⟨⟨by kernel_rfl, fun wy hw => ?_⟩, ?_⟩
    · (have bw := hw.below; have y0 := (HR7.out wy bw).1; have y1 := (HR7.out wy bw).2.1; have y2 := (HR7.out wy bw).2.2.1; have y3 := (HR7.out wy bw).2.2.2.1; have y4 := (HR7.out wy bw).2.2.2.2.1; have y5 := (HR7.out wy bw).2.2.2.2.2; go_simp; try (first | (with_reducible rfl) | (with_reducible exact ⟨rfl, rfl⟩)))
    try simp only [Act.put, List.getElem_toArray, List.getElem_cons_succ, List.getElem_cons_zero, List.setIfInBounds_toArray, List.set_cons_succ, List.set_cons_zero]
    refine wpAnyK_ex (i := 3) rfl (by kernel_rfl) (listed' := #[true, true, true, true, false, false, false]) rfl (fun _ _ _ _ _ h => h) hwx ?_
    apply Exists.intro
    refine ⟨⟨by kernel_rfl, fun wy hw => ?_⟩, ?_⟩
    · (have bw := hw.below; have y0 := (HR7.out wy bw).1; have y1 := (HR7.out wy bw).2.1; have y2 := (HR7.out wy bw).2.2.1; have y3 := (HR7.out wy bw).2.2.2.1; have y4 := (HR7.out wy bw).2.2.2.2.1; have y5 := (HR7.out wy bw).2.2.2.2.2; go_simp; try (first | (with_reducible rfl) | (with_reducible exact ⟨rfl, rfl⟩)))
    try simp only [Act.put, List.getElem_toArray, List.getElem_cons_succ, List.getElem_cons_zero, List.setIfInBounds_toArray, List.set_cons_succ, List.set_cons_zero]
    refine wpAnyK_ex (i := 4) rfl (by kernel_rfl) (listed' := #[true, true, true, true, true, false, false]) rfl (fun _ _ _ _ _ h => h) hwx ?_
    apply Exists.intro
    refine ⟨⟨by kernel_rfl, fun wy hw => ?_⟩, ?_⟩
    · (have bw := hw.below; have y0 := (HR7.out wy bw).1; have y1 := (HR7.out wy bw).2.1; have y2 := (HR7.out wy bw).2.2.1; have y3 := (HR7.out wy bw).2.2.2.1; have y4 := (HR7.out wy bw).2.2.2.2.1; have y5 := (HR7.out wy bw).2.2.2.2.2; go_simp; try (first | (with_reducible rfl) | (with_reducible exact ⟨rfl, rfl⟩)))
    try simp only [Act.put, List.getElem_toArray, List.getElem_cons_succ, List.getElem_cons_zero, List.setIfInBounds_toArray, List.set_cons_succ, List.set_cons_zero]
    refine wpAnyK_end (by kernel_rfl) ?_
    try simp only [pickOps, List.filterMap_cons, List.filterMap_nil, List.getElem?_toArray, List.getElem?_cons_succ, List.getElem?_cons_zero]
    have BX := Lib.hid hwx.below
    have HBX := Lib.hid (below_up8 HBZ.out BX.out)
    obtain ⟨fn, tmps, assign, body, hy, hR⟩ := HYQ.out wx (HJ.out _ _ _ HJP.out HBX.out)
    have HRR := Lib.hid hR
    have hszX := BX.out.size
    clear hR hfA
    gi_wp2
    refine ⟨(fun h => by cases h), HRR.out.mono ?_⟩
    rintro e W3 (⟨rfl, hJ3, hk3⟩ | ⟨rfl, hJ3⟩)
    · obtain ⟨a1, a2, a3⟩ := hk3 hp (by omega)
      have hlen : (ps ++ [(⟨k, ad2, c2, PN⟩ : PV)]).length = k + 1 := by rw [List.length_append, ← HK.out]; rfl
      have HLEN := Lib.hid hlen
      have HOX := Lib.hid (show Own KE W3 (p + 4) (.slice ad2 (x.getD ps.length 0).toNat c2) (evP l x ps.length) from by
       have h1 := (own_type9 (HO7.out.below BX.out (Nat.le_refl _)) (fun k cs fz _ h => a3 k cs fz h)).base HB9.out
       rw [HEL1.out, HEVE.out, HK.out] at h1
       exact h1)
      have HT3 := Lib.hid (show Tp9 (p + 4) l x (ps ++ [⟨k, ad2, c2, PN⟩]) W3 from ((HT.out.grow HBX.out).kept (fun k cs fz _ h => a3 k cs fz h)).snoc HK.out (by show PN = _; rw [← HK.out]; exact HPKD.out) HOX.out)
      have HJ3 := Lib.hid hJ3
      have HW3 := Lib.hid (show Below w.heap.size w W3 from (below_up8 HBZW.out BX.out).trans a1)
      have bk := fun (j : Nat) (hj : j < 4) (v : Value) (h : w7.cell? ⟨p + j, 0, none⟩ = some v) => show W3.cell? ⟨p + j, 0, none⟩ = some v from (World.cell?_of_block (a := ⟨p + j, 0, none⟩) (a2 (p + j) (by omega) (by omega))).trans ((BX.out.cell (p := ⟨p + j, 0, none⟩) (by show p + j < _; omega)).trans h)
      have s0 := bk 0 (by decide) _ HQ7.out.1
      have s1 := bk 1 (by decide) _ HQ7.out.2.1
      have s2 := bk 2 (by decide) _ HQ7.out.2.2.1
      have s3 := bk 3 (by decide) _ HQ7.out.2.2.2
      have hs3 : p + 4 ≤ W3.heap.size := by have := a1.size; omega
      clear a1 a2 a3 hJ3 hk3 bk hy hlen
      gi_wp2
      go_roundw
      case rel => exact ⟨ps ++ [⟨k, ad2, c2, PN⟩], by rw [HLEN.out]; go_num, by rw [HLEN.out]; exact HLT.out, by rw [HLEN.out, ← HE1.out], by rw [HLEN.out, ← HPN.out], HJ3, HT3, HW3, s0, s1, s2, s3, hs3⟩
      case measure => have := HLT.out; simp [RowKit.intOf]; omega
    · have HJ3 := Lib.hid hJ3
      clear hJ3 hy
      gi_wp2
      exact bodyPost_ret (results_none rfl _ _ _) rfl ⟨⟨_, rfl⟩, .inr ⟨_, HJ3.out⟩⟩
  · have hke : k = x.length := by omega
    have hki : ¬ (k : Int) < (x.length : Int) := by omega
    have HF := Lib.hid (show ps.length = x.length ∧ Tp9 (p + 4) l x ps wr from ⟨by rw [← HK.out]; exact hke, HT.out⟩)
    clear r0 r1 r2 r3 hlt hke
    gi_wp2
    go_end0
    exact ⟨⟨_, rfl⟩, .inl ⟨ps, HF.out, HJP.out⟩⟩
end Go.Proofs.YtnpfhcnjkekhbaaGreatDoor

namespace Go.Proofs.YtnpfhcnjkekhbaaGreatDoor
open Go Go.Proofs Go.RowKit Go.Lib Go.Sort
attribute [local go_sem] Oper.semAt_some
theorem own_loop9 {T : Type} {K : RowK T} {W : World} {n q : Nat} {v : Value} {l : List T} {r} (o : Obj) (hq : W.heap[q]? = some (.loop r)) (h : Own K W n v l) : Own K (W.putObj q o) n v l := by
 refine own_move8 h fun j hj => World.putObj_heap_other (fun e => ?_)
 subst e
 rcases h.2 with ⟨hv, _⟩ | ⟨g, cap, cur, hv, _, hg, _⟩
 · rw [hv] at hj; cases hj
 · rw [hv] at hj
   have e : g = j := by injection hj
   subst e
   rw [hq] at hg
   cases hg
theorem own_ne9 {T : Type} {K : RowK T} {W : World} {n k : Nat} {v : Value} {l : List T} {cs : Array Value} {t : TypeId} {fz} (h : Own K W n v l) (hk : W.heap[k]? = some (.cells cs t fz)) (ht : t ≠ K.et) : v.ownBlock ≠ some k := fun hj => by
 rcases h.2 with ⟨hv, _⟩ | ⟨g, cap, cur, hv, _, hg, _⟩
 · rw [hv] at hj; cases hj
 · rw [hv] at hj
   have e : g = k := by injection hj
   subst e
   rw [hk] at hg
   simp only [Option.some.injEq, Obj.cells.injEq] at hg
   exact ht hg.2.1
theorem cells_loop9 {W : World} {q B : Nat} {v : Value} {vs : List Value} (o : Obj) (hB : B ≠ q) (h : CellsAt W B (v :: vs)) : CellsAt (W.putObj q o) B (v :: vs) :=
 h.grown (grownBy_putObj' W q o) (fun e => hB (by injection e))
structure SpI (w : World) (a p : Nat) (ag : Int) (l : List Ev) (x y : List Int) (pre : List PV) (W : World) : Prop where
 bl : Below w.heap.size w W
 sz : p + 4 ≤ W.heap.size
 c8 : CellsAt W w.heap.size [.slice none 0 0]
 c9 : CellsAt W (w.heap.size + 1) [.int .i64 0]
 c10 : ∃ sv, CellsAt W a [sv] ∧ Own KB9 W (p + 6) sv (pre.map (PV.bv ag x y))
 ok : ∀ j, j < pre.length → ptB9 l x y j = true
 ix : ∀ j (h : j < pre.length), pre[j].i = j
 ty : ∃ cs fz, W.heap[a]? = some (.cells cs 35 fz)
theorem SpI.grow {w : World} {a p : Nat} {ag : Int} {l : List Ev} {x y : List Int} {pre : List PV} {W W' : World} (h : SpI w a p ag l x y pre W) (ha : w.heap.size + 2 ≤ a) (hp : a + 1 = p) (b : Below W.heap.size W W') : SpI w a p ag l x y pre W' := by
 have hz := h.sz
 obtain ⟨sv, h1, h2⟩ := h.c10
 exact ⟨below_up8 h.bl b, by have := b.size; omega, h.c8.up b (by omega), h.c9.up b (by omega), ⟨sv, h1.up b (by omega), h2.below b (Nat.le_refl _)⟩, h.ok, h.ix, (by obtain ⟨cs, fz, ht⟩ := h.ty; exact ⟨cs, fz, (b.block a (by omega)).trans ht⟩)⟩
theorem SpI.loop {w : World} {a p : Nat} {ag : Int} {l : List Ev} {x y : List Int} {pre : List PV} {W : World} {r} {o : Obj} (h : SpI w a p ag l x y pre W) (ha : w.heap.size + 2 ≤ a) (hp : a + 1 = p) (hq : W.heap[p + 4 + 1]? = some (.loop r)) : SpI w a p ag l x y pre (W.putObj (p + 4 + 1) o) := by
 have hz := h.sz
 have hlt := (Array.getElem?_eq_some_iff.1 hq).1
 obtain ⟨sv, h1, h2⟩ := h.c10
 exact ⟨h.bl.grown (grownBy_putObj' W _ o) h.bl.size (fun k e => by cases e; omega), by simpa using hz, cells_loop9 o (by omega) h.c8, cells_loop9 o (by omega) h.c9, ⟨sv, cells_loop9 o (by omega) h1, own_loop9 o hq h2⟩, h.ok, h.ix, (by obtain ⟨cs, fz, ht⟩ := h.ty; exact ⟨cs, fz, (World.putObj_heap_other (by omega)).trans ht⟩)⟩
structure SpX (w : World) (l : List Ev) (x y : List Int) (W : World) : Prop where
 bl : Below w.heap.size w W
 sz : w.heap.size + 2 ≤ W.heap.size
 c8 : CellsAt W w.heap.size [.slice none 0 0]
 c9 : CellsAt W (w.heap.size + 1) [.int .i64 90]
 no : ∃ j, j < x.length ∧ ptB9 l x y j = false
theorem SpX.grow {w : World} {l : List Ev} {x y : List Int} {W W' : World} (h : SpX w l x y W) (b : Below W.heap.size W W') : SpX w l x y W' := by
 have hz := h.sz
 exact ⟨below_up8 h.bl b, by have := b.size; omega, h.c8.up b (by omega), h.c9.up b (by omega), h.no⟩
theorem SpX.loop {w : World} {q : Nat} {l : List Ev} {x y : List Int} {W : World} {o : Obj} (h : SpX w l x y W) (hq2 : w.heap.size + 2 ≤ q) : SpX w l x y (W.putObj q o) :=
 ⟨h.bl.grown (grownBy_putObj' W _ o) h.bl.size (fun k e => by cases e; omega), by simpa using h.sz, cells_loop9 o (by omega) h.c8, cells_loop9 o (by omega) h.c9, h.no⟩
def asg9 (b : BV) (W : World) : World := (((((W.alloc (.cells #[.int .i64 0, .int .i64 0, .slice none 0 0, .int .i64 0, .string ⟨#[]⟩] 26)).setCell ⟨W.heap.size, 0, none⟩ (.int .i64 b.ag)).setCell ⟨W.heap.size, 1, none⟩ (.int .i64 b.fs)).setCell ⟨W.heap.size, 2, none⟩ (.slice b.ad b.n b.c)).setCell ⟨W.heap.size, 3, none⟩ (.int .i64 b.lw)).setCell ⟨W.heap.size, 4, none⟩ (.string b.hd)
theorem asg9_facts (b : BV) (W : World) : Below W.heap.size W (asg9 b W) ∧ CellsAt (asg9 b W) W.heap.size b.cells ∧ (asg9 b W).heap.size = W.heap.size + 1 := by
 obtain ⟨w3, w4, V3, Z3, _, V4, K4, B4, Z4⟩ := btcopy9 W b
 have e : asg9 b W = w4 := by unfold asg9; rw [V3]; exact V4
 rw [e]
 exact ⟨B4, K4, Z4⟩
theorem two_cell9 {W : World} {B : Nat} {v v' : Value} (h1 : W.cell? ⟨B, 0, none⟩ = some v) (h2 : W.cell? ⟨B + 1, 0, none⟩ = some v') (a b : Value) : ((W.setCell ⟨B, 0, none⟩ a).setCell ⟨B + 1, 0, none⟩ b).cell? ⟨B, 0, none⟩ = some a ∧ ((W.setCell ⟨B, 0, none⟩ a).setCell ⟨B + 1, 0, none⟩ b).cell? ⟨B + 1, 0, none⟩ = some b := by
 constructor
 · rw [World.cell?_setCell_other _ _ _ _ (fun e' => by injection e' with e1; omega)]
   exact World.cell?_setCell_same _ _ _ h1
 · exact World.cell?_setCell_same _ _ _ ((World.cell?_setCell_other W ⟨B, 0, none⟩ ⟨B + 1, 0, none⟩ a (fun e' => by injection e' with e1; omega)).trans h2)
theorem two_far9 {W : World} {B k : Nat} {v v' : Value} (hk : k ≠ B ∧ k ≠ B + 1) : ((W.setCell ⟨B, 0, none⟩ v).setCell ⟨B + 1, 0, none⟩ v').heap[k]? = W.heap[k]? :=
 (Below.heap_setCell _ ⟨B + 1, 0, none⟩ v' k hk.2).trans (Below.heap_setCell W ⟨B, 0, none⟩ v k hk.1)
theorem spx9 {w : World} {a p : Nat} {ag : Int} {l : List Ev} {x y : List Int} {pre : List PV} {W W4 : World} (h : SpI w a p ag l x y pre W) (hp : a + 1 = p) (ha : w.heap.size + 2 ≤ a) (b : Below W.heap.size W W4) {i : Nat} (hi : i < x.length) (hn : ptB9 l x y i = false) :
 SpX w l x y ((W4.setCell ⟨w.heap.size, 0, none⟩ (.slice none 0 0)).setCell ⟨w.heap.size + 1, 0, none⟩ (.int .i64 90)) := by
 have h4 := SpI.grow h ha hp b
 have hz := h4.sz
 refine ⟨(h4.bl.setCell (p := ⟨w.heap.size, 0, none⟩) (Nat.le_refl _) _).setCell (p := ⟨w.heap.size + 1, 0, none⟩) (Nat.le_succ _) _, by simp; omega, ?_, ?_, ⟨i, hi, hn⟩⟩
 · exact (h4.c8.put 0 _).far (by omega)
 · exact (h4.c9.far (by omega)).put 0 _
theorem grow9 {w : World} {a p : Nat} {ag : Int} {l : List Ev} {x y : List Int} {pre : List PV} {W W4 wB w9 : World} {sv v9 : Value} {b : BV} {q : PV} (h : SpI w a p ag l x y pre W) (hp : a + 1 = p) (ha : w.heap.size + 2 ≤ a) (h6 : p + 6 ≤ W4.heap.size) (hW6 : p + 4 + 2 ≤ W.heap.size) (b4 : Below W.heap.size W W4) (bB : Below W4.heap.size W4 wB)
 (ho : Own KB9 wB (p + 6) sv (pre.map (PV.bv ag x y))) (h1 : Own KB9 w9 (p + 6) v9 (pre.map (PV.bv ag x y) ++ [b])) (h2 : wB.grownBy w9 sv.ownBlock) (hb : PV.bv ag x y q = b) (hq : q.i = pre.length) (hok : ptB9 l x y q.i = true) :
 SpI w a p ag l x y (pre ++ [q]) (w9.setCell ⟨a, 0, none⟩ v9) ∧ Kp9 w.heap.size p W (w9.setCell ⟨a, 0, none⟩ v9) ∧ (w9.setCell ⟨a, 0, none⟩ v9).heap[p + 4]? = W.heap[p + 4]? ∧ (w9.setCell ⟨a, 0, none⟩ v9).heap[p + 4 + 1]? = W.heap[p + 4 + 1]? := by
 have hWz := h.sz
 have hz4 := b4.size
 have hzB := bB.size
 have hB := SpI.grow (SpI.grow h ha hp b4) ha hp bB
 have hz9 := h2.size
 have hge : ∀ k, sv.ownBlock = some k → p + 6 ≤ k := fun k hk => (ho.ge k hk).1
 have low : ∀ k, k < p + 6 → k ≠ a → (w9.setCell ⟨a, 0, none⟩ v9).heap[k]? = wB.heap[k]? := fun k hk hne =>
  (Below.heap_setCell w9 ⟨a, 0, none⟩ v9 k hne).trans (h2.block k (by omega) (fun e => by have := hge k e.symm; omega))
 have lowW : ∀ k, k < W.heap.size → wB.heap[k]? = W.heap[k]? := fun k hk => (bB.block k (by omega)).trans (b4.block k hk)
 have hbl : Below w.heap.size wB (w9.setCell ⟨a, 0, none⟩ v9) := ((Below.refl w.heap.size wB).grown h2 (by omega) (fun k e => by have := hge k e; omega)).setCell (p := ⟨a, 0, none⟩) (by show w.heap.size ≤ a; omega) _
 refine ⟨⟨hB.bl.trans hbl, by simp; omega, ?_, ?_, ⟨v9, ?_, ?_⟩, ?_, ?_, ?_⟩, fun _ h8 => ⟨?_, ?_, ?_⟩, ?_, ?_⟩
 · exact (hB.c8.grown h2 (fun e => by have := hge _ e.symm; omega)).far (by omega)
 · exact (hB.c9.grown h2 (fun e => by have := hge _ e.symm; omega)).far (by omega)
 · obtain ⟨sv2, g1, _⟩ := hB.c10
   exact (g1.grown h2 (fun e => by have := hge _ e.symm; omega)).put 0 v9
 · rw [List.map_append, List.map_singleton, hb]
   exact h1.far (fun e => by have := (h1.ge _ e).1; omega)
 · intro j hj
   rw [List.length_append] at hj
   by_cases e : j < pre.length
   · exact h.ok j e
   · have e2 : j = q.i := by simp at hj; omega
     rw [e2]; exact hok
 · intro j hj
   rw [List.length_append] at hj
   by_cases e : j < pre.length
   · rw [List.getElem_append_left e]; exact h.ix j e
   · have e2 : j = pre.length := by simp at hj; omega
     subst e2
     rw [List.getElem_append_right (Nat.le_refl _)]
     simpa using hq
 · obtain ⟨cs, fz, ht⟩ := hB.ty
   have h9 : w9.heap[a]? = some (.cells cs 35 fz) := (h2.block a (by omega) (fun e => by have := hge _ e.symm; omega)).trans ht
   exact ⟨_, _, by simp only [World.setCell, Array.getElem?_modify, if_pos, h9]; rfl⟩
 · exact (b4.mono (by omega)).trans ((bB.mono (by omega)).trans hbl)
 · intro k hk1 hk2
   exact (low k (by omega) (by omega)).trans (lowW k (by omega))
 · intro k cs fz hk
   have hkl := (Array.getElem?_eq_some_iff.1 hk).1
   have hkB := (lowW k hkl).trans hk
   have hka : k ≠ a := fun e => by
    obtain ⟨cs2, fz2, ht⟩ := hB.ty
    rw [e, ht] at hkB
    simp only [Option.some.injEq, Obj.cells.injEq] at hkB
    exact absurd hkB.2.1 (by decide)
   exact (Below.heap_setCell w9 ⟨a, 0, none⟩ v9 k hka).trans ((h2.block k (by omega) (fun e => own_ne9 ho hkB (by decide) e.symm)).trans (lowW k hkl))
 · exact (low (p + 4) (by omega) (by omega)).trans (lowW _ (by omega))
 · exact (low (p + 4 + 1) (by omega) (by omega)).trans ((bB.block _ (by omega)).trans (b4.block _ (by omega)))
theorem done9 {w : World} {a p : Nat} {ag : Int} {l : List Ev} {x y : List Int} {ps : List PV} {W : World} {sad : Option Addr} {n sc : Nat} (h : SpI w a p ag l x y ps W) (hp : a + 1 = p) (ha : w.heap.size + 2 ≤ a)
 (ho : Own KB9 W (p + 6) (.slice sad n sc) (ps.map (PV.bv ag x y))) (hK : W.heap[p + 4]? = some (.deferred (some []))) :
 ((W.setCell ⟨w.heap.size, 0, none⟩ (.slice sad n sc)).setCell ⟨w.heap.size + 1, 0, none⟩ (.int .i64 0)).heap[p + 4]? = some (.deferred (some [])) ∧
 (((W.setCell ⟨w.heap.size, 0, none⟩ (.slice sad n sc)).setCell ⟨w.heap.size + 1, 0, none⟩ (.int .i64 0)).putObj (p + 4) (.deferred none)).cell? ⟨w.heap.size, 0, none⟩ = some (.slice sad n sc) ∧
 (((W.setCell ⟨w.heap.size, 0, none⟩ (.slice sad n sc)).setCell ⟨w.heap.size + 1, 0, none⟩ (.int .i64 0)).putObj (p + 4) (.deferred none)).cell? ⟨w.heap.size + 1, 0, none⟩ = some (.int .i64 0) ∧
 Below w.heap.size w (((W.setCell ⟨w.heap.size, 0, none⟩ (.slice sad n sc)).setCell ⟨w.heap.size + 1, 0, none⟩ (.int .i64 0)).putObj (p + 4) (.deferred none)) ∧
 RN KB9 (((W.setCell ⟨w.heap.size, 0, none⟩ (.slice sad n sc)).setCell ⟨w.heap.size + 1, 0, none⟩ (.int .i64 0)).putObj (p + 4) (.deferred none)) w.heap.size sad (ps.map (PV.bv ag x y)) ∧
 (∀ (k : Nat) (cs : Array Value) (fz : Nat × Nat), p + 4 ≤ k → W.heap[k]? = some (Obj.cells cs 23 fz) → (((W.setCell ⟨w.heap.size, 0, none⟩ (.slice sad n sc)).setCell ⟨w.heap.size + 1, 0, none⟩ (.int .i64 0)).putObj (p + 4) (.deferred none)).heap[k]? = W.heap[k]?) := by
 have hz := h.sz
 have hge := fun k hk => (ho.ge k hk).1
 have c8 := (h.c8.put 0 (.slice sad n sc)).far (A := w.heap.size + 1) (i := 0) (v := .int .i64 0) (by omega)
 have c9 := (h.c9.far (A := w.heap.size) (i := 0) (v := .slice sad n sc) (by omega)).put 0 (.int .i64 0)
 have d8 := cells_loop9 (q := p + 4) (.deferred none) (by omega) c8
 have d9 := cells_loop9 (q := p + 4) (.deferred none) (by omega) c9
 have hb := (h.bl.setCell (p := ⟨w.heap.size, 0, none⟩) (Nat.le_refl _) (.slice sad n sc)).setCell (p := ⟨w.heap.size + 1, 0, none⟩) (Nat.le_succ _) (.int .i64 0)
 refine ⟨(two_far9 (by omega)).trans hK, (d8 0 (by simp)).1, (d9 0 (by simp)).1, hb.grown (grownBy_putObj' _ (p + 4) _) hb.size (fun k e => by cases e; omega), ?_, fun k cs fz hk1 hk2 => ?_⟩
 · have ho2 : Own KB9 (((W.setCell ⟨w.heap.size, 0, none⟩ (.slice sad n sc)).setCell ⟨w.heap.size + 1, 0, none⟩ (.int .i64 0)).putObj (p + 4) (.deferred none)) (p + 6) (.slice sad n sc) (ps.map (PV.bv ag x y)) := own_move8 ho fun j hj => by
    have := hge j hj
    exact (World.putObj_heap_other (by omega)).trans (two_far9 (by omega))
   obtain ⟨ad2, c2, e1, _, hr⟩ := ho2.rn
   injection e1 with e1 e2 e3
   rw [← e1] at hr
   exact RN.base (base := p + 6) (base' := w.heap.size) hr (by omega)
 · refine (World.putObj_heap_other (fun e => ?_)).trans (two_far9 (by omega))
   subst e
   rw [hK] at hk2
   cases hk2
theorem stop9 {w : World} {q : Nat} {l : List Ev} {x y : List Int} {W : World} (h : SpX w l x y W) (hq : w.heap.size + 2 ≤ q) (hK : W.heap[q]? = some (.deferred (some []))) :
 (W.putObj q (.deferred none)).cell? ⟨w.heap.size, 0, none⟩ = some (.slice none 0 0) ∧ (W.putObj q (.deferred none)).cell? ⟨w.heap.size + 1, 0, none⟩ = some (.int .i64 90) ∧ Below w.heap.size w (W.putObj q (.deferred none)) := by
 have := (Array.getElem?_eq_some_iff.1 hK).1
 exact ⟨(cells_loop9 (q := q) (.deferred none) (by omega) h.c8 0 (by simp)).1, (cells_loop9 (q := q) (.deferred none) (by omega) h.c9 0 (by simp)).1, h.bl.grown (grownBy_putObj' _ q _) h.bl.size (fun k e => by cases e; omega)⟩
def SplPost (w : World) (ag : Int) (l : List Ev) (x y : List Int) (e : Ending) (w' : World) : Prop :=
 Below w.heap.size w w' ∧ ((splB ag l x y = false ∧ e = .returned (.tuple #[.slice none 0 0, .int .i64 90])) ∨
  (splB ag l x y = true ∧ ∃ sad sc, ∃ raws : List PV, e = .returned (.tuple #[.slice sad x.length sc, .int .i64 0]) ∧ x.length ≤ sc ∧ raws.length = x.length ∧ RN KB9 w' w.heap.size sad (raws.map (PV.bv ag x y)) ∧ Tp9 w.heap.size l x raws w'))
def spV (ag : Int) (l : List Ev) (x y : List Int) : Bool := inB ag 0 5 && numB ag 0 l && okX x l.length && okY y x.length
theorem spV_no {ag : Int} {l : List Ev} {x y : List Int} (h : spV ag l x y = false) : splB ag l x y = false := by
 unfold splB
 unfold spV at h
 rw [h]
 rfl
theorem spl_all {ag : Int} {l : List Ev} {x y : List Int} (h : spV ag l x y = true) (hp : ∀ j, j < x.length → ptB9 l x y j = true) : splB ag l x y = true := by
 unfold splB
 unfold spV at h
 rw [h, Bool.true_and]
 exact List.all_eq_true.2 fun j hj => hp j (List.mem_range.1 hj)
theorem spl_one {ag : Int} {l : List Ev} {x y : List Int} (h : ∃ j, j < x.length ∧ ptB9 l x y j = false) : splB ag l x y = false := by
 cases hb : splB ag l x y with
 | false => rfl
 | true =>
  obtain ⟨j, h1, h2⟩ := h
  have := ((splB_iff ag l x y).1 hb).pt j h1
  rw [h2] at this
  cases this
theorem split_in (ag : Int) (ad : Option Addr) (c : Nat) (l : List Ev) (xad : Option Addr) (xc : Nat) (x : List Int) (yad : Option Addr) (yc : Nat) (y : List Int) (hl : l.length ≤ maxLen) (hxl : x.length ≤ maxLen) (hyl : y.length ≤ maxLen)
    (hlc : l.length ≤ c) (hnil : ad = none → c = 0) (hw : evsW l) (w : World) (hR : Rdy w) (hD : Ready w) (hI : RL KE w ad l) (hX : RL KI w xad x) (hY : RL KI w yad y) :
    CallsIn Fence.wide 3 Tryz.prog 30 #[.int .i64 ag, .slice ad l.length c, .slice xad x.length xc, .slice yad y.length yc] w (SplPost w ag l x y) := by
  obtain ⟨w1, V1, Z1, K1, B1⟩ := lay8 w [.slice none 0 0] 35
  obtain ⟨w2, V2, Z2, K2, B2⟩ := lay8 w1 [.int .i64 0] 30
  rw [Z1] at Z2 K2 B2
  have HB2 := Lib.hid (show Below w.heap.size w w2 from B1.trans (B2.mono (by omega)))
  have HK8 := Lib.hid (K1.up B2 (by omega))
  have HK9 := Lib.hid K2
  have HA := Lib.hid (fun W => isAgent_u ag W)
  have HNU := Lib.hid (fun W (b : Below w2.heap.size w2 W) => numbered_u ag 0 ad c l hl (Int.le_refl _) (by decide) hw W (hR.below (below_up8 HB2.out b)) (hI.below (below_up8 HB2.out b)))
  have HSZ := Lib.hid (fun W (b : Below w2.heap.size w2 W) => areSizes_u xad xc x l.length W (hX.below (below_up8 HB2.out b)))
  have HLO := Lib.hid (fun W (b : Below w2.heap.size w2 W) => areLows_u yad yc y x.length hyl W (hY.below (below_up8 HB2.out b)))
  have HV := Lib.hid (show spV ag l x y = (inB ag 0 5 && numB ag 0 l && okX x l.length && okY y x.length) from rfl)
  have HIN := Lib.hid hI; have HXN := Lib.hid hX; have HYN := Lib.hid hY; have HDD := Lib.hid hD
  have hxl := hxl
  clear K1 K2 B1 B2 hI hX hY hR hD hw hyl
  unfold maxLen at hl hxl
  refine callsIn_of_wp_marks Tryz.func30 rfl trivial ?_ rfl
  simp only [Tryz.ntmps30, List.size_toArray, List.length_cons, List.length_nil, Nat.reduceAdd, Nat.reduceSub, Array.replicate_succ, Array.replicate_zero, List.push_toArray, List.append_toArray, List.nil_append, List.cons_append]
  gi_upto_region 1 with fail
  gi_cut [35] from 13 (fun v wx => v = .bool (!spV ag l x y) ∧ Hid (Below w2.heap.size w2 wx))
  case first =>
    rename_i J2 K2 hJ2 hK2
    refine wpIn_wide.2 ?_
    have HB := Lib.hid (Below.refl w2.heap.size w2)
    cases h1 : inB ag 0 5 with
    | false =>
      have F0 := Lib.hid h1
      rw [h1] at HA
      clear h1
      go_wp2_with fail
      refine (HA.out _).mono ?_
      rintro e z ⟨rfl, rfl⟩
      go_wp2_with fail
      refine Met.intro (hJ2 _ _ ?_)
      (repeat apply Exists.intro)
      refine ⟨?rel, rfl⟩
      case rel => exact ⟨by rw [HV.out, F0.out] <;> first | rfl | simp, Lib.hid HB.out⟩
    | true =>
      have F0 := Lib.hid h1
      rw [h1] at HA
      clear h1
      go_wp2_with fail
      refine (HA.out _).mono ?_
      rintro e z ⟨rfl, rfl⟩
      go_wp2_with fail
      cases h2 : numB ag 0 l with
      | false =>
        have F1 := Lib.hid h2
        rw [h2] at HNU
        clear h2
        skip
        refine (HNU.out _ HB.out).mono ?_
        rintro e z1 ⟨rfl, hz⟩
        replace HB := Lib.hid (below_up8 HB.out hz)
        clear hz
        go_wp2_with fail
        refine Met.intro (hJ2 _ _ ?_)
        (repeat apply Exists.intro)
        refine ⟨?rel, rfl⟩
        case rel => exact ⟨by rw [HV.out, F0.out, F1.out] <;> first | rfl | simp, Lib.hid HB.out⟩
      | true =>
        have F1 := Lib.hid h2
        rw [h2] at HNU
        clear h2
        skip
        refine (HNU.out _ HB.out).mono ?_
        rintro e z1 ⟨rfl, hz⟩
        replace HB := Lib.hid (below_up8 HB.out hz)
        clear hz
        go_wp2_with fail
        cases h3 : okX x l.length with
        | false =>
          have F2 := Lib.hid h3
          rw [h3] at HSZ
          clear h3
          skip
          refine (HSZ.out _ HB.out).mono ?_
          rintro e z ⟨rfl, rfl⟩
          go_wp2_with fail
          refine Met.intro (hJ2 _ _ ?_)
          (repeat apply Exists.intro)
          refine ⟨?rel, rfl⟩
          case rel => exact ⟨by rw [HV.out, F0.out, F1.out, F2.out] <;> first | rfl | simp, Lib.hid HB.out⟩
        | true =>
          have F2 := Lib.hid h3
          rw [h3] at HSZ
          clear h3
          skip
          refine (HSZ.out _ HB.out).mono ?_
          rintro e z ⟨rfl, rfl⟩
          go_wp2_with fail
          cases h4 : okY y x.length with
          | false =>
            have F3 := Lib.hid h4
            rw [h4] at HLO
            clear h4
            skip
            refine (HLO.out _ HB.out).mono ?_
            rintro e z3 ⟨rfl, hz⟩
            replace HB := Lib.hid (below_up8 HB.out hz)
            clear hz
            go_wp2_with fail
            refine Met.intro (hJ2 _ _ ?_)
            (repeat apply Exists.intro)
            refine ⟨?rel, rfl⟩
            case rel => exact ⟨by rw [HV.out, F0.out, F1.out, F2.out, F3.out] <;> first | rfl | simp, Lib.hid HB.out⟩
          | true =>
            have F3 := Lib.hid h4
            rw [h4] at HLO
            clear h4
            skip
            refine (HLO.out _ HB.out).mono ?_
            rintro e z3 ⟨rfl, hz⟩
            replace HB := Lib.hid (below_up8 HB.out hz)
            clear hz
            go_wp2_with fail
            refine Met.intro (hJ2 _ _ ?_)
            (repeat apply Exists.intro)
            refine ⟨?rel, rfl⟩
            case rel => exact ⟨by rw [HV.out, F0.out, F1.out, F2.out, F3.out] <;> first | rfl | simp, Lib.hid HB.out⟩
  case rest =>
  obtain ⟨rfl, HB3⟩ := hcut
  generalize wc = w3 at *
  have K8 := HK8.out.up HB3.out (show w.heap.size < w2.heap.size by omega)
  have K9 := HK9.out.up HB3.out (show w.heap.size + 1 < w2.heap.size by omega)
  obtain ⟨k8, k8'⟩ := K8 0 (by simp)
  obtain ⟨k9, k9'⟩ := K9 0 (by simp)
  simp only [List.getElem_cons_zero] at k8 k9
  have HBW := Lib.hid (below_up8 HB2.out HB3.out)
  have hz3 : w.heap.size + 2 ≤ w3.heap.size := by have := HB3.out.size; omega
  clear V1 V2
  cases hsv : spV ag l x y with
  | false =>
    have HF := Lib.hid (spV_no hsv)
    have hc1 := two_cell9 k8 k9 (.slice none 0 0) (.int .i64 90)
    have HBE := Lib.hid ((HBW.out.setCell (p := ⟨w.heap.size, 0, none⟩) (Nat.le_refl _) (.slice none 0 0)).setCell (p := ⟨w.heap.size + 1, 0, none⟩) (Nat.le_succ _) (.int .i64 90))
    clear hsv
    gi_wp2
    refine ⟨.tuple #[.slice none 0 0, .int .i64 90], ?_, ⟨HBE.out, .inl ⟨HF.out, rfl⟩⟩⟩
    simp [results, Tryz.f30, go_sem, hc1.1, hc1.2]
  | true =>
    have HSV := Lib.hid hsv
    have hs4 := hsv
    rw [HV.out] at hs4
    simp only [Bool.and_eq_true] at hs4
    obtain ⟨⟨⟨q1, q2⟩, q3⟩, q4⟩ := hs4
    obtain ⟨hxn, hxb, hxs⟩ := okX_of q3
    obtain ⟨hyn, hyb⟩ := okY_of q4
    have hev := numB_ev q2
    have hl1000 : l.length ≤ 1000 := by
      rcases Nat.lt_or_ge 1000 l.length with h | h
      · obtain ⟨e1, _, e3⟩ := numB_of q2 1000 h
        have := (evB_of e1).2.1
        omega
      · exact h
    have hx0 : ∀ v ∈ x, 0 ≤ v := fun v hv => (hxb v hv).1
    have HEN := Lib.hid (show ∀ k, 0 ≤ endK x k ∧ endK x k ≤ (l.length : Int) from fun k => ⟨endK_nonneg hx0 k, by have := endK_le hx0 k; rw [hxs] at this; exact this⟩)
    obtain ⟨F, hF⟩ : ∃ F : Nat → Option Addr, ∀ i, (∀ w, (Instr.slice KE.st (.slice ad l.length c) (some (.int .i64 (endK x (i + 1)))) none none).run Tryz.prog w = .ok (.slice (F i) (l.length - (endK x (i + 1)).toNat) (c - (endK x (i + 1)).toNat)) w) ∧ (∀ W L, RL KE W ad L → L.length = l.length → RL KE W (F i) (L.drop (endK x (i + 1)).toNat)) :=
      ⟨fun i => (RowK.from9 KE ad l.length c (endK x (i + 1)) (HEN.out _).1 (HEN.out _).2 hlc).choose, fun i => (RowK.from9 KE ad l.length c (endK x (i + 1)) (HEN.out _).1 (HEN.out _).2 hlc).choose_spec⟩
    obtain ⟨w4, V4, Z4, K4, B4⟩ := lay8 w3 [.slice none 0 0] 35
    obtain ⟨w5, V5, Z5, K5, B5⟩ := lay8 w4 [.int .i64 ag] 3
    obtain ⟨w6, V6, Z6, K6, B6⟩ := lay8 w5 [.slice ad l.length c] 24
    obtain ⟨w7, V7, Z7, K7, B7⟩ := lay8 w6 [.slice xad x.length xc] 28
    obtain ⟨w8, V8, Z8, K8b, B8⟩ := lay8 w7 [.slice yad y.length yc] 28
    obtain ⟨p, hp⟩ : ∃ p, p = w4.heap.size := ⟨_, rfl⟩
    rw [← hp] at Z4 Z5 K5 B5
    rw [Z5] at Z6 K6 B6
    rw [Z6] at Z7 K7 B7
    rw [Z7] at Z8 K8b B8
    have G4 : CellsAt w8 w3.heap.size [.slice none 0 0] := (((K4.up B5 (by omega)).up B6 (by omega)).up B7 (by omega)).up B8 (by omega)
    have G5 : CellsAt w8 p [.int .i64 ag] := ((K5.up B6 (by omega)).up B7 (by omega)).up B8 (by omega)
    have G6 : CellsAt w8 (p + 1) [.slice ad l.length c] := (K6.up B7 (by omega)).up B8 (by omega)
    have G7 : CellsAt w8 (p + 1 + 1) [.slice xad x.length xc] := K7.up B8 (by omega)
    have hB38 : Below w3.heap.size w3 w8 := B4.trans ((B5.mono (by omega)).trans ((B6.mono (by omega)).trans ((B7.mono (by omega)).trans (B8.mono (by omega)))))
    have HB8 := Lib.hid (below_up8 HBW.out hB38)
    have HZ8 := Lib.hid (show w8.heap.size = p + 4 by omega)
    have HPZ := Lib.hid (show w3.heap.size + 1 = p by omega)
    have HT4 := Lib.hid (show ∃ cs fz, w8.heap[w3.heap.size]? = some (.cells cs 35 fz) from ⟨_, _, by
      have e1 := B8.block w3.heap.size (by omega)
      have e2 := B7.block w3.heap.size (by omega)
      have e3 := B6.block w3.heap.size (by omega)
      have e4 := B5.block w3.heap.size (by omega)
      rw [e1, e2, e3, e4, ← V4]
      exact World.alloc_heap_new w3 _⟩)
    have HI0 := Lib.hid (show SpI w w3.heap.size p ag l x y [] w8 from ⟨HB8.out, by omega, K8.up hB38 (by omega), K9.up hB38 (by omega), ⟨_, G4, Own.nil _ _ _⟩, fun j hj => by simp at hj, fun j hj => by simp at hj, HT4.out⟩)
    obtain ⟨XF, hXF⟩ : ∃ XF : Nat → Nat, XF = fun i => (x.getD i 0).toNat := ⟨_, rfl⟩
    obtain ⟨YF, hYF⟩ : ∃ YF : Nat → Int, YF = fun i => y.getD i 0 := ⟨_, rfl⟩
    have HXF := Lib.hid hXF; have HYF := Lib.hid hYF
    have HSQ := Lib.hid (show ∀ (lid : Nat) (J Jx : List PV → World → Prop) (W : World), Below w8.heap.size w8 W →
          (∀ s A B, J s A → Below A.heap.size A B → J s B) → (∀ s A B, Jx s A → Below A.heap.size A B → Jx s B) →
          (∀ pre (q : PV) A, J pre A → (q.i = pre.length ∧ q.i < x.length) → YieldAt Fence.wide 1 Tryz.prog lid #[.agg #[.int .i64 ag, .int .i64 (endK x q.i), .slice q.ad (XF q.i) q.c, .int .i64 (YF q.i), .string q.hd], .slice (F q.i) (l.length - (endK x (q.i + 1)).toNat) (c - (endK x (q.i + 1)).toNat)] A fun e A' =>
            (e = .returned (.bool true) ∧ J (pre ++ [q]) A' ∧ Kp9 w.heap.size p A A') ∨ (e = .returned (.bool false) ∧ Jx (pre ++ [q]) A')) →
          J [] W → CallsIn Fence.wide 2 Tryz.prog 83 (#[.func (.yield lid) #[] #[]] ++ #[.pointer (some ⟨p + 1 + 1, 0, none⟩), .pointer (some ⟨p + 1, 0, none⟩), .pointer (some ⟨p, 0, none⟩), .pointer (some ⟨p + 1 + 1 + 1, 0, none⟩)]) W fun e W' => (∃ v, e = .returned v) ∧ ((∃ ps : List PV, (ps.length = x.length ∧ Tp9 (p + 4) l x ps W') ∧ J ps W') ∨ ∃ pre, Jx pre W') from by
        intro lid J Jx W hb hJ hJx hYd h0
        subst hXF hYF
        have c5 := ((G5.up hb (by omega)) 0 (by simp)).1
        have c6 := ((G6.up hb (by omega)) 0 (by simp)).1
        have c7 := ((G7.up hb (by omega)) 0 (by simp)).1
        have c8 := ((K8b.up hb (by omega)) 0 (by simp)).1
        exact parts_seq 2 lid p ag ad c l xad xc x yad yc y w W hl1000 hlc hnil hxn hxb hxs hyn hev HDD.out HIN.out HXN.out HYN.out (by have := HB8.out.size; omega) (by have := hb.size; omega) (below_up8 HB8.out hb) c5 c6 c7 c8 F (fun i _ => (hF i).1) J Jx hJ hJx hYd h0)
    have HBH := Lib.hid (fun i => (hF i).2)
    have HYNL := Lib.hid hyn
    have HLE := Lib.hid hl1000
    have HP := Lib.hid hp
    clear hyn G4 G5 G6 G7 K4 K5 K6 K7 K8b K8 K9 B4 B5 B6 B7 B8 hB38 hF hev hx0 hxb hyb q1 q2 q3 q4 hsv hXF hYF k8 k8' k9 k9' Z4 Z5 Z6 Z7 Z8 hp
    gi_wp2_with (refine ⟨trivial, ?_⟩; gi_at_call 60; refine (callsIn_wide.2 (parts_u _ _ _ _ _ _ _ _ _ _ _)).mono ?_; rintro e w' ⟨rfl, hw'⟩; rw [V5, V6, V7, V8] at hw'; subst hw'; rw [← HP.out])
    clear V4 V5 V6 V7 V8
    refine rangeFunc_over9 (gf := 83) rfl ?eg (fun q : PV => #[.agg #[.int .i64 ag, .int .i64 (endK x q.i), .slice q.ad (XF q.i) q.c, .int .i64 (YF q.i), .string q.hd], .slice (F q.i) (l.length - (endK x (q.i + 1)).toNat) (c - (endK x (q.i + 1)).toNat)]) (fun _ => rfl)
      (fun pre q => q.i = pre.length ∧ q.i < x.length) (fun ps W => ps.length = x.length ∧ Tp9 (p + 4) l x ps W) (Kp9 w.heap.size p) Kp9.trans Kp9.grow (fun W r o h => Kp9.loop (by rw [HZ8.out]; omega) W o h)
      ?sl ?seq (fun pre W => SpI w w3.heap.size p ag l x y pre W) (fun _ W => SpX w l x y W) (fun s A B h b => SpI.grow h (by omega) HPZ.out b) (fun _ A B h b => SpX.grow h b)
      (fun s W r o hq h => by rw [HZ8.out] at hq ⊢; exact SpI.loop h (by omega) HPZ.out hq) (fun _ W r o hq h => SpX.loop h (by have := HB8.out.size; rw [HZ8.out]; have := HPZ.out; omega))
      HI0.out (fun q W => asg9 ⟨ag, endK x q.i, q.ad, XF q.i, q.c, YF q.i, q.hd⟩ W) (fun q W => (asg9_facts _ W).1) (fun q W => { tmps := #[.int .i64 ag, .slice ad l.length c, .slice xad x.length xc, .slice yad y.length yc, undef, undef, undef, undef, .pointer (some ⟨w.heap.size, 0, none⟩), .pointer (some ⟨w.heap.size + 1, 0, none⟩), .pointer (some ⟨w3.heap.size, 0, none⟩), .pointer (some ⟨W.heap.size, 0, none⟩), .slice (F q.i) (l.length - (endK x (q.i + 1)).toNat) (c - (endK x (q.i + 1)).toNat), u13, u14, u15, u16, u17, u18, u19, u20, u21, u22, u23, u24, u25, u26, u27, u28, u29, u30, u31, u32, u33, u34, .bool (!true), .int .i64 ag, .slice ad l.length c, .slice xad x.length xc, .slice yad y.length yc, .func (.func 83) #[] #[.pointer (some ⟨p + 1 + 1, 0, none⟩), .pointer (some ⟨p + 1, 0, none⟩), .pointer (some ⟨p, 0, none⟩), .pointer (some ⟨p + 1 + 1 + 1, 0, none⟩)], .agg #[.int .i64 ag, .int .i64 (endK x q.i), .slice q.ad (XF q.i) q.c, .int .i64 (YF q.i), .string q.hd], .slice (F q.i) (l.length - (endK x (q.i + 1)).toNat) (c - (endK x (q.i + 1)).toNat), u43, u44, u45, u46, u47, u48, u49, u50, u51, u52, u53, u54, u55, u56, u57, u58], defers := [] }) ?assign ?body ?done ?stop
    case eg => intro args W; rfl
    case sl =>
      rintro ps W r o hq ⟨h1, h2⟩
      refine ⟨h1, h2.kept (fun k cs fz _ hk => World.putObj_heap_other (fun e => ?_))⟩
      subst e
      rw [hq] at hk
      cases hk
    case seq => exact fun lid J Jx W b hJ hJx hY h0 => HSQ.out lid J Jx W b hJ hJx hY h0
    case assign =>
      intro lid pre q W K hG hK
      obtain ⟨w9, w10, V9, Z9, ⟨⟨g0, g0'⟩, ⟨g1, g1'⟩, ⟨g2, g2'⟩, ⟨g3, g3'⟩, ⟨g4, g4'⟩⟩, V10, K10, B10, Z10⟩ := btcopy9 W ⟨ag, endK x q.i, q.ad, XF q.i, q.c, YF q.i, q.hd⟩
      have hK := Lib.hid (show K _ w10 from by rw [← V10, ← V9]; exact hK)
      clear K10 B10 hG
      gi_wp2
      exact hK.out
    case body =>
      intro lid pre q W W2 hI hG hlt hk
      obtain ⟨hq1, hq2⟩ := hG
      obtain ⟨f1, f2, f3⟩ := asg9_facts ⟨ag, endK x q.i, q.ad, XF q.i, q.c, YF q.i, q.hd⟩ W
      have hbk := hk W.heap.size (Nat.le_refl _)
      have hs2 : W.heap.size < W2.heap.size := by
        have h1 : W.heap.size < (asg9 ⟨ag, endK x q.i, q.ad, XF q.i, q.c, YF q.i, q.hd⟩ W).heap.size := by rw [f3]; omega
        rw [Array.getElem?_eq_getElem h1] at hbk
        exact (Array.getElem?_eq_some_iff.1 hbk).1
      have y0 : W2.cell? ⟨W.heap.size, 0, none⟩ = some (.int .i64 ag) := (World.cell?_of_block (a := ⟨W.heap.size, 0, none⟩) hbk).trans (f2 0 (by simp [BV.cells])).1
      have y1 : W2.cell? ⟨W.heap.size, 1, none⟩ = some (.int .i64 (endK x q.i)) := (World.cell?_of_block (a := ⟨W.heap.size, 1, none⟩) hbk).trans (f2 1 (by simp [BV.cells])).1
      have y2 : W2.cell? ⟨W.heap.size, 2, none⟩ = some (.slice q.ad (XF q.i) q.c) := (World.cell?_of_block (a := ⟨W.heap.size, 2, none⟩) hbk).trans (f2 2 (by simp [BV.cells])).1
      have y3 : W2.cell? ⟨W.heap.size, 3, none⟩ = some (.int .i64 (YF q.i)) := (World.cell?_of_block (a := ⟨W.heap.size, 3, none⟩) hbk).trans (f2 3 (by simp [BV.cells])).1
      have y4 : W2.cell? ⟨W.heap.size, 4, none⟩ = some (.string q.hd) := (World.cell?_of_block (a := ⟨W.heap.size, 4, none⟩) hbk).trans (f2 4 (by simp [BV.cells])).1
      have HIS := Lib.hid hI
      have hz4 : p + 4 + 2 ≤ W2.heap.size := by rw [HZ8.out] at hlt; omega
      have hza : w3.heap.size + 1 = p := HPZ.out
      have HZA := Lib.hid (show w3.heap.size + 1 = p ∧ p + 4 + 2 ≤ W2.heap.size ∧ w.heap.size + 2 ≤ w3.heap.size ∧ W.heap.size < W2.heap.size from ⟨hza, hz4, hz3, hs2⟩)
      have HPT := Lib.hid (show ptB9 l x y q.i = (inB (endK x q.i) 0 999 && keepB (YF q.i) (l.drop (endK x (q.i + 1)).toNat)) from by rw [HYF.out]; rfl)
      have HQ := Lib.hid (show q.i = pre.length ∧ q.i < x.length from ⟨hq1, hq2⟩)
      have HBV := Lib.hid (show PV.bv ag x y q = ⟨ag, endK x q.i, q.ad, XF q.i, q.c, YF q.i, q.hd⟩ from by rw [HXF.out, HYF.out]; rfl)
      have HFI := Lib.hid (fun W => isFirst_u (endK x q.i) W)
      have HKE := Lib.hid (show ∀ W', Below w.heap.size w W' → Calls Tryz.prog 61 #[.int .i64 (YF q.i), .slice (F q.i) (l.length - (endK x (q.i + 1)).toNat) (c - (endK x (q.i + 1)).toNat)] W' fun e w' => e = .returned (.bool (keepB (YF q.i) (l.drop (endK x (q.i + 1)).toNat))) ∧ Below W'.heap.size W' w' from fun W' b => by
        have := isKept_u (YF q.i) (F q.i) (c - (endK x (q.i + 1)).toNat) (l.drop (endK x (q.i + 1)).toNat) (by rw [List.length_drop]; unfold maxLen; omega) W' (HBH.out q.i W' l (HIN.out.below b) rfl)
        rw [List.length_drop] at this
        exact this)
      clear hI hlt hk hq1 hq2 f1 f2 f3 hbk hs2 hza hz4
      obtain ⟨i, qa, qc, qh⟩ := q
      dsimp only at y0 y1 y2 y3 y4 HPT HQ HBV HFI HKE ⊢
      generalize endK x i = E0 at *
      generalize endK x (i + 1) = E1 at *
      generalize XF i = XQ at *
      generalize YF i = YQ at *
      generalize F i = FQ at *
      generalize keepB YQ (l.drop E1.toNat) = KQ at *
      cases hf : inB E0 0 999 with
      | false =>
        rw [hf] at HFI
        have HX := Lib.hid (spx9 HIS.out HZA.out.1 HZA.out.2.2.1 (Below.refl W2.heap.size W2) HQ.out.2 (by rw [HPT.out, hf]; rfl))
        have HDL := Lib.hid (two_far9 (W := W2) (B := w.heap.size) (v := .slice none 0 0) (v' := .int .i64 90) (k := w8.heap.size) (by rw [HZ8.out]; have := HZA.out; omega))
        have HDL2 := Lib.hid (two_far9 (W := W2) (B := w.heap.size) (v := .slice none 0 0) (v' := .int .i64 90) (k := w8.heap.size + 1) (by rw [HZ8.out]; have := HZA.out; omega))
        obtain ⟨s8, s8'⟩ := HIS.out.c8 0 (by simp)
        obtain ⟨s9, s9'⟩ := HIS.out.c9 0 (by simp)
        simp only [List.getElem_cons_zero] at s8 s9
        clear hf
        gi_wp2_with (refine ⟨trivial, ?_⟩; gi_at_call 45; refine (CallsIn.inRound lid (callsIn_wide.2 (HFI.out _))).mono ?_; rintro en W3 ⟨rfl, rfl⟩)
        refine ⟨trivial, ?_⟩
        gi_wp2
        exact ⟨⟨HDL.out, HDL2.out⟩, HX.out⟩
      | true =>
        have HF1 := Lib.hid hf
        rw [hf] at HFI
        clear hf
        cases hkq : KQ with
        | false =>
          have HK0 := Lib.hid hkq
          rw [hkq] at HKE
          clear hkq
          gi_wp2_with (refine ⟨trivial, ?_⟩; gi_at_call 45; refine (CallsIn.inRound lid (callsIn_wide.2 (HFI.out _))).mono ?_; rintro en W3 ⟨rfl, rfl⟩)
          refine ⟨trivial, ?_⟩
          gi_at_call 61
          refine (CallsIn.inRound lid (callsIn_wide.2 (HKE.out _ HIS.out.bl))).mono ?_
          rintro en W4 ⟨rfl, b4⟩
          have HB4 := Lib.hid b4
          have HX := Lib.hid (spx9 HIS.out HZA.out.1 HZA.out.2.2.1 b4 HQ.out.2 (by rw [HPT.out, HF1.out, HK0.out]; rfl))
          have HDL := Lib.hid (show _ = W3.heap[w8.heap.size]? from (two_far9 (W := W4) (B := w.heap.size) (v := .slice none 0 0) (v' := .int .i64 90) (k := w8.heap.size) (by rw [HZ8.out]; have := HZA.out; omega)).trans (b4.block _ (by rw [HZ8.out]; have := HZA.out; omega)))
          have HDL2 := Lib.hid (show _ = W3.heap[w8.heap.size + 1]? from (two_far9 (W := W4) (B := w.heap.size) (v := .slice none 0 0) (v' := .int .i64 90) (k := w8.heap.size + 1) (by rw [HZ8.out]; have := HZA.out; omega)).trans (b4.block _ (by rw [HZ8.out]; have := HZA.out; omega)))
          have HI4 := Lib.hid (SpI.grow HIS.out HZA.out.2.2.1 HZA.out.1 b4)
          obtain ⟨s8, s8'⟩ := HI4.out.c8 0 (by simp)
          obtain ⟨s9, s9'⟩ := HI4.out.c9 0 (by simp)
          simp only [List.getElem_cons_zero] at s8 s9
          clear b4 y0 y1 y2 y3 y4
          gi_wp2
          exact ⟨⟨HDL.out, HDL2.out⟩, HX.out⟩
        | true =>
          have HK0 := Lib.hid hkq
          rw [hkq] at HKE
          clear hkq
          gi_wp2_with (refine ⟨trivial, ?_⟩; gi_at_call 45; refine (CallsIn.inRound lid (callsIn_wide.2 (HFI.out _))).mono ?_; rintro en W3 ⟨rfl, rfl⟩)
          refine ⟨trivial, ?_⟩
          gi_at_call 61
          refine (CallsIn.inRound lid (callsIn_wide.2 (HKE.out _ HIS.out.bl))).mono ?_
          rintro en W4 ⟨rfl, b4⟩
          have HB4 := Lib.hid b4
          have HI4 := Lib.hid (SpI.grow HIS.out HZA.out.2.2.1 HZA.out.1 b4)
          obtain ⟨sv, h10, ho⟩ := HI4.out.c10
          obtain ⟨sad, sc, rfl, hsc⟩ := ho.form
          obtain ⟨c10, c10'⟩ := h10 0 (by simp)
          simp only [List.getElem_cons_zero] at c10
          have z0 : W4.cell? ⟨W.heap.size, 0, none⟩ = some (.int .i64 ag) := (b4.cell (p := ⟨W.heap.size, 0, none⟩) HZA.out.2.2.2).trans y0
          have z1 : W4.cell? ⟨W.heap.size, 1, none⟩ = some (.int .i64 E0) := (b4.cell (p := ⟨W.heap.size, 1, none⟩) HZA.out.2.2.2).trans y1
          have z2 : W4.cell? ⟨W.heap.size, 2, none⟩ = some (.slice qa XQ qc) := (b4.cell (p := ⟨W.heap.size, 2, none⟩) HZA.out.2.2.2).trans y2
          have z3 : W4.cell? ⟨W.heap.size, 3, none⟩ = some (.int .i64 YQ) := (b4.cell (p := ⟨W.heap.size, 3, none⟩) HZA.out.2.2.2).trans y3
          have z4 : W4.cell? ⟨W.heap.size, 4, none⟩ = some (.string qh) := (b4.cell (p := ⟨W.heap.size, 4, none⟩) HZA.out.2.2.2).trans y4
          obtain ⟨wB, VB, ZB, KB, BB⟩ := lay8 W4 (BV.cells ⟨ag, E0, qa, XQ, qc, YQ, qh⟩) 26
          have VB := (show W4.alloc (.cells #[.int .i64 ag, .int .i64 E0, .slice qa XQ qc, .int .i64 YQ, .string qh] 26) = wB from VB)
          have KB := Lib.hid (show CellsAt wB W4.heap.size (KB9.cs ⟨ag, E0, qa, XQ, qc, YQ, qh⟩) from KB)
          have HBB := Lib.hid BB
          have HPL := Lib.hid (show (pre.map (PV.bv ag x y)).length = pre.length from List.length_map ..)
          have HPB := Lib.hid (show (pre.map (PV.bv ag x y)).length + 1 ≤ 100000000 from by rw [HPL.out]; have := HQ.out; omega)
          have HOB := Lib.hid (ho.below BB (Nat.le_refl _))
          have HCB := Lib.hid (h10.up BB (show w3.heap.size < W4.heap.size by have := b4.size; have := HZA.out; omega))
          obtain ⟨d10, d10'⟩ := HCB.out 0 (by simp)
          simp only [List.getElem_cons_zero] at d10
          have HS4 := Lib.hid (show p + 6 ≤ W4.heap.size from by have := b4.size; have := HZA.out; omega)
          have HGR := Lib.hid (fun (v9 : Value) (w9 : World) (h1 : Own KB9 w9 (p + 6) v9 (pre.map (PV.bv ag x y) ++ [⟨ag, E0, qa, XQ, qc, YQ, qh⟩])) (h2 : wB.grownBy w9 (Value.slice sad (pre.map (PV.bv ag x y)).length sc).ownBlock) => grow9 HIS.out HZA.out.1 HZA.out.2.2.1 HS4.out HZA.out.2.1 HB4.out HBB.out HOB.out h1 h2 (q := ⟨i, qa, qc, qh⟩) HBV.out HQ.out.1 (by rw [HPT.out, HF1.out, HK0.out]; rfl))
          clear b4 y0 y1 y2 y3 y4 h10 ho BB hsc
          generalize pre.map (PV.bv ag x y) = LP at *
          gi_upto_region 9 with fail
          refine wpIn_region_roundL (by kernel_rfl) ?_
          go_wp2_with (at_builtin; refine walk_push8 KB9 (w0 := wB) rfl _ _ rfl (p + 6) (.slice sad LP.length sc) LP ⟨ag, E0, qa, XQ, qc, YQ, qh⟩ rfl HOB.out (Below.refl _ _) (by have := HS4.out; have := HBB.out.size; omega) _ 1 rfl KB.out HPB.out ?_; intro v9 w9 ho9 hb9 hg9 hk9; obtain ⟨ad9, cc9, e9, hc9⟩ := ho9.form; subst e9; obtain ⟨g10, g10'⟩ := (HCB.out.grown hg9 (fun e => by have := (HOB.out.ge _ e.symm).1; have := HZA.out; omega)) 0 (by simp); simp only [List.getElem_cons_zero] at g10; have HG := Lib.hid (HGR.out _ _ ho9 hg9); rw [List.length_append, List.length_singleton] at HG; clear ho9 hb9 hg9 hk9 hc9)
          refine Only.normal ?_
          exact ⟨⟨(by rw [HZ8.out]; exact HG.out.2.2.1), (by rw [HZ8.out]; exact HG.out.2.2.2)⟩, HG.out.2.1, HG.out.1⟩
    case done =>
      rintro ps W ⟨hl9, hT⟩ hI hK
      have HIS := Lib.hid hI; have HK := Lib.hid hK; have HT := Lib.hid hT; have HL9 := Lib.hid hl9
      obtain ⟨sv, h10, ho⟩ := hI.c10
      obtain ⟨sad, sc, rfl, hsc⟩ := ho.form
      obtain ⟨c10, c10'⟩ := h10 0 (by simp)
      obtain ⟨s8, s8'⟩ := hI.c8 0 (by simp)
      obtain ⟨s9, s9'⟩ := hI.c9 0 (by simp)
      simp only [List.getElem_cons_zero] at c10 s8 s9
      have hlen : (ps.map (PV.bv ag x y)).length = x.length := by rw [List.length_map, hl9]
      have HO := Lib.hid ho
      rw [hlen] at c10 hsc HO
      have HSC := Lib.hid hsc
      clear hI hK hT hl9 h10 ho hlen hsc
      have HFIN := Lib.hid (done9 HIS.out HPZ.out hz3 HO.out (by rw [HZ8.out] at HK; exact HK.out))
      gi_wp2
      refine ⟨by simp, .inl ⟨_, _, rfl, run_takeDeferred (by rw [HZ8.out]; exact HFIN.out.1), ?_⟩⟩
      rw [HZ8.out]
      have hc1 := HFIN.out.2.1
      have hc2 := HFIN.out.2.2.1
      refine ⟨.tuple #[.slice sad x.length sc, .int .i64 0], ?_, HFIN.out.2.2.2.1, .inr ⟨spl_all HSV.out (fun j hj => HIS.out.ok j (by rw [HL9.out]; exact hj)), sad, sc, ps, rfl, HSC.out, HL9.out, HFIN.out.2.2.2.2.1, (HT.out.kept HFIN.out.2.2.2.2.2).base (by have := HPZ.out; omega)⟩⟩
      simp [results, Tryz.f30, go_sem, hc1, hc2]
    case stop =>
      rintro ps W hX hK
      have HX := Lib.hid hX; have HK := Lib.hid hK
      have HFIN := Lib.hid (stop9 hX (q := p + 4) (by have := HPZ.out; omega) (by rw [HZ8.out] at hK; exact hK))
      clear hX hK
      gi_wp2
      refine ⟨by simp, .inl ⟨_, _, rfl, run_takeDeferred HK.out, ?_⟩⟩
      rw [HZ8.out]
      have hc1 := HFIN.out.1
      have hc2 := HFIN.out.2.1
      refine ⟨.tuple #[.slice none 0 0, .int .i64 90], ?_, HFIN.out.2.2, .inl ⟨spl_one HX.out.no, rfl⟩⟩
      simp [results, Tryz.f30, go_sem, hc1, hc2]
theorem split_u (ag : Int) (ad : Option Addr) (c : Nat) (l : List Ev) (xad : Option Addr) (xc : Nat) (x : List Int) (yad : Option Addr) (yc : Nat) (y : List Int) (hl : l.length ≤ maxLen) (hxl : x.length ≤ maxLen) (hyl : y.length ≤ maxLen)
 (hlc : l.length ≤ c) (hnil : ad = none → c = 0) (hw : evsW l) (w : World) (hR : Rdy w) (hD : Ready w) (hI : RL KE w ad l) (hX : RL KI w xad x) (hY : RL KI w yad y) :
 Calls Tryz.prog 30 #[.int .i64 ag, .slice ad l.length c, .slice xad x.length xc, .slice yad y.length yc] w (SplPost w ag l x y) :=
 callsIn_wide.1 (split_in ag ad c l xad xc x yad yc y hl hxl hyl hlc hnil hw w hR hD hI hX hY)
end Go.Proofs.YtnpfhcnjkekhbaaGreatDoor

namespace Go.Proofs.YtnpfhcnjkekhbaaGreatDoor
open Go Go.Proofs Go.RowKit Go.Lib Go.Sort
open W1 (int_arg int_any intOut scan unz scan_is_enc)
def panE : List PanicEntry := [{ v := .iface 30 (.int .i64 90), recovered := false }]
theorem require_yes (w : World) : Calls Tryz.prog 77 #[.bool true] w fun e w' => e = .returned (.tuple #[]) ∧ w' = w := by
 go_enter Tryz.func77, Tryz.ntmps77
 go_wp2
 go_end0
 exact ⟨rfl, rfl⟩
theorem require_no (w : World) : Calls Tryz.prog 77 #[.bool false] w fun e w' => e = .panicked panE ∧ w' = w := by
 go_enter Tryz.func77, Tryz.ntmps77
 go_wp2
 exact ⟨rfl, rfl, rfl⟩
def numV (s : ByteArray) (a : Int) : Option (Int × Int) := if 0 ≤ a ∧ a ≤ (s.size : Int) then (match scan 0 0 (s.data.toList.drop a.toNat) with
 | none => none
 | some (z, n) => some (unz z, a + (n : Int))) else none
def erN (s : ByteArray) (a : Int) : Int := if 0 ≤ a ∧ a ≤ (s.size : Int) then 10 else 2
theorem numInt_yes {s : ByteArray} (hs : s.size ≤ maxLen) {a v b : Int} (h : numV s a = some (v, b)) (w : World) : Calls Tryz.prog 113 #[.string s, .int .i64 a] w fun e w' => e = .returned (.tuple #[.int .i64 v, .int .i64 b, .int .i64 0]) ∧ w' = w := by
 unfold numV at h
 split at h
 · rename_i hr
   split at h
   · cases h
   · rename_i z n hz
     simp only [Option.some.injEq, Prod.mk.injEq] at h
     obtain ⟨rfl, rfl⟩ := h
     have c := int_any s hs a.toNat (by omega) w
     rw [hz, Int.toNat_of_nonneg hr.1] at c
     refine c.mono ?_
     rintro e w' ⟨rfl, rfl⟩
     refine ⟨?_, rfl⟩
     unfold intOut
     rw [Int.toNat_of_nonneg hr.1]
 · cases h
theorem numInt_no {s : ByteArray} (hs : s.size ≤ maxLen) {a : Int} (h : numV s a = none) (w : World) : Calls Tryz.prog 113 #[.string s, .int .i64 a] w fun e w' => e = .returned (.tuple #[.int .i64 0, .int .i64 0, .int .i64 (erN s a)]) ∧ w' = w := by
 unfold numV at h
 unfold erN
 split at h
 · rename_i hr
   rw [if_pos hr]
   split at h
   · rename_i hz
     have c := int_any s hs a.toNat (by omega) w
     rw [hz, Int.toNat_of_nonneg hr.1] at c
     refine c.mono ?_
     rintro e w' ⟨rfl, rfl⟩
     exact ⟨rfl, rfl⟩
   · cases h
 · rename_i hr
   rw [if_neg hr]
   refine (int_arg s a (by omega) w).mono ?_
   rintro e w' ⟨rfl, rfl⟩
   exact ⟨rfl, rfl⟩
theorem erN_ne (s : ByteArray) (a : Int) : erN s a ≠ 0 := by unfold erN; split <;> decide
theorem number_yes {s : ByteArray} (hs : s.size ≤ maxLen) {a v b : Int} (h : numV s a = some (v, b)) (w : World) : Calls Tryz.prog 98 #[.string s, .int .i64 a] w fun e w' => e = .returned (.tuple #[.int .i64 v, .int .i64 b]) ∧ w' = w := by
 have HI := Lib.hid (fun W => numInt_yes hs h W)
 have HR := Lib.hid (fun W => require_yes W)
 clear h
 go_enter Tryz.func98, Tryz.ntmps98
 go_wp2_with fail
 refine (HI.out _).mono ?_
 rintro e z ⟨rfl, rfl⟩
 go_wp2_with fail
 refine (HR.out _).mono ?_
 rintro e z2 ⟨rfl, rfl⟩
 go_wp2_with fail
 go_ret2
 exact ⟨rfl, rfl⟩
theorem number_no {s : ByteArray} (hs : s.size ≤ maxLen) {a : Int} (h : numV s a = none) (w : World) : Calls Tryz.prog 98 #[.string s, .int .i64 a] w fun e w' => e = .panicked panE ∧ w' = w := by
 have HI := Lib.hid (fun W => numInt_no hs h W)
 have HR := Lib.hid (fun W => require_no W)
 have hne := erN_ne s a
 generalize erN s a = E at *
 have hne2 : (E == 0) = false := by rw [beq_eq_false_iff_ne]; exact hne
 clear h
 go_enter Tryz.func98, Tryz.ntmps98
 go_wp2_with fail
 refine (HI.out _).mono ?_
 rintro e z ⟨rfl, rfl⟩
 go_wp2_with fail
 refine (HR.out _).mono ?_
 rintro e z2 ⟨rfl, rfl⟩
 exact ⟨rfl, rfl, rfl⟩
end Go.Proofs.YtnpfhcnjkekhbaaGreatDoor

namespace Go.Proofs.YtnpfhcnjkekhbaaGreatDoor
open Go Go.Proofs Go.RowKit Go.Lib Go.Sort
def KP9 : RowK Addr where
 n := 1
 bytes := 8
 et := 110
 st := 139
 zero := .pointer none
 cs := fun x => [.pointer (some x)]
 len := fun _ => rfl
 one := fun x u hu => by
  simp at hu
  subst hu
  rfl
 pos := by decide
 bb := by decide
 und := by kernel_rfl
 elem := by kernel_rfl
 info := by kernel_rfl
 zs := rfl
theorem at_p9 (g n c k : Nat) (hk : k < n) (w : World) : (Instr.indexAt 139 (.slice (some ⟨g, 0, none⟩) n c) (.int .i64 (k : Int))).run Tryz.prog w = .ok (.pointer (some ⟨g, k, none⟩)) w := by
 have := KP9.at_ g 0 n c k hk w
 rw [show 0 + KP9.n * k = k by show 0 + 1 * k = _; omega] at this
 exact this
def fillV (s : ByteArray) : Nat → Int → Option (List Int × Int)
 | 0, a => some ([], a)
 | n + 1, a => match numV s a with
  | none => none
  | some (v, b) => match fillV s n b with
   | none => none
   | some (l, c) => some (v :: l, c)
theorem fillV_len (s : ByteArray) : ∀ (n : Nat) (a : Int) (l : List Int) (c : Int), fillV s n a = some (l, c) → l.length = n
 | 0, a, l, c, h => by simp only [fillV, Option.some.injEq, Prod.mk.injEq] at h; rw [← h.1]; rfl
 | n + 1, a, l, c, h => by
  unfold fillV at h
  split at h
  · cases h
  · split at h
    · cases h
    · rename_i h2
      simp only [Option.some.injEq, Prod.mk.injEq] at h
      rw [← h.1, List.length_cons, fillV_len s n _ _ _ h2]
structure FillF (R : Nat) (ps : List Addr) (w W : World) : Prop where
 os : W.os = w.os
 tape : W.tape = w.tape
 output : W.output = w.output
 size : W.heap.size = w.heap.size
 hb : ∀ k, k ≠ R → (∀ q ∈ ps, q.block ≠ k) → W.heap[k]? = w.heap[k]?
theorem FillF.refl (R : Nat) (ps : List Addr) (w : World) : FillF R ps w w := ⟨rfl, rfl, rfl, rfl, fun _ _ _ => rfl⟩
theorem FillF.drew {R : Nat} {ps : List Addr} {w W : World} (h : FillF R ps w W) : FillF R ps w { W with drawn := W.drawn + 1 } := ⟨h.os, h.tape, h.output, h.size, h.hb⟩
structure FillI (s : ByteArray) (R : Nat) (ps : List Addr) (vs : List Int) (a : Int) (w W : World) : Prop where
 vals : ∀ j (h : j < vs.length) (h2 : j < ps.length), W.cell? ps[j] = some (.int .i64 vs[j])
 r0 : W.cell? ⟨R, 0, none⟩ = some (.string s)
 r1 : W.cell? ⟨R, 1, none⟩ = some (.int .i64 a)
 fz : ∀ x, W.frozen? x = w.frozen? x
 far : ∀ x, x ∉ ps.take vs.length → x ≠ ⟨R, 1, none⟩ → W.cell? x = w.cell? x
 bl : FillF R ps w W
structure FillP (R : Nat) (ps : List Addr) (w : World) : Prop where
 nd : ∀ (i j : Nat) (hi : i < ps.length) (hj : j < ps.length), ps[i] = ps[j] → i = j
 bk : ∀ q ∈ ps, q.block ≠ R
 ok : ∀ q ∈ ps, w.frozen? q = false ∧ ∃ v, w.cell? q = some v
 rz : w.frozen? ⟨R, 1, none⟩ = false
theorem FillI.step {s : ByteArray} {R : Nat} {ps : List Addr} {vs : List Int} {a : Int} {w W : World} (h : FillI s R ps vs a w W) (hp : FillP R ps w) (hk : vs.length < ps.length) (v b : Int) :
 FillI s R ps (vs ++ [v]) b w (({ W with drawn := W.drawn + 1 }.setCell ps[vs.length] (.int .i64 v)).setCell ⟨R, 1, none⟩ (.int .i64 b)) := by
 have hq := hp.bk _ (List.getElem_mem hk)
 have hqn : ps[vs.length] ∉ ps.take vs.length := fun hm => by
  obtain ⟨j, hj, e⟩ := List.getElem_of_mem hm
  rw [List.length_take] at hj
  rw [List.getElem_take] at e
  have := hp.nd _ _ _ _ e
  omega
 have hqR : ps[vs.length] ≠ ⟨R, 1, none⟩ := fun e => hq (by rw [e])
 have hqR0 : ps[vs.length] ≠ ⟨R, 0, none⟩ := fun e => hq (by rw [e])
 obtain ⟨hf, u, hu⟩ := hp.ok _ (List.getElem_mem hk)
 have hcell : ({ W with drawn := W.drawn + 1 } : World).cell? ps[vs.length] = some u := (h.far _ hqn hqR).trans hu
 have hsame : ({ W with drawn := W.drawn + 1 }.setCell ps[vs.length] (.int .i64 v)).cell? ps[vs.length] = some (.int .i64 v) := World.cell?_setCell_same _ _ _ hcell
 have hoth : ∀ x, x ≠ ps[vs.length] → ({ W with drawn := W.drawn + 1 }.setCell ps[vs.length] (.int .i64 v)).cell? x = W.cell? x := fun x hx => World.cell?_setCell_other _ _ _ _ (fun e => hx e.symm)
 have hr1 := (hoth ⟨R, 1, none⟩ (fun e => hqR e.symm)).trans h.r1
 have hoth2 : ∀ x, x ≠ ⟨R, 1, none⟩ → (({ W with drawn := W.drawn + 1 }.setCell ps[vs.length] (.int .i64 v)).setCell ⟨R, 1, none⟩ (.int .i64 b)).cell? x = ({ W with drawn := W.drawn + 1 }.setCell ps[vs.length] (.int .i64 v)).cell? x := fun x hx => World.cell?_setCell_other _ _ _ _ (fun e => hx e.symm)
 refine ⟨fun j hj hj2 => ?_, ?_, World.cell?_setCell_same _ _ _ hr1, fun x => ?_, fun x hx hxR => ?_, ⟨h.bl.os, h.bl.tape, h.bl.output, by simp [h.bl.size], fun k hkR hkq => ?_⟩⟩
 · rw [List.length_append] at hj
   have hjR : ps[j] ≠ ⟨R, 1, none⟩ := fun e => hp.bk _ (List.getElem_mem hj2) (by rw [e])
   rw [hoth2 _ hjR]
   by_cases e : j < vs.length
   · rw [List.getElem_append_left e, hoth _ (fun e2 => by have := hp.nd _ _ _ _ e2; omega)]
     exact h.vals j e hj2
   · have e2 : j = vs.length := by simp at hj; omega
     subst e2
     rw [hsame, List.getElem_append_right (Nat.le_refl _)]
     simp
 · rw [hoth2 _ (by simp), hoth _ (fun e => hqR0 e.symm)]
   exact h.r0
 · rw [World.frozen?_setCell, World.frozen?_setCell]
   exact h.fz x
 · have hx1 : x ∉ ps.take vs.length := fun hm => hx (by rw [List.length_append]; exact List.mem_of_mem_take (i := vs.length) (by rw [List.take_take]; simpa using hm))
   have hx2 : x ≠ ps[vs.length] := fun e => hx (by
    rw [List.length_append, e]
    have h9 : ps[vs.length] ∈ ps.take (vs.length + 1) := by
     rw [List.take_succ_eq_append_getElem hk]
     exact List.mem_append_right _ (List.mem_singleton_self _)
    exact h9)
   rw [hoth2 _ hxR, hoth _ hx2]
   exact h.far x hx1 hxR
 · exact (Below.heap_setCell _ ⟨R, 1, none⟩ _ k hkR).trans ((Below.heap_setCell _ ps[vs.length] _ k (fun e => hkq _ (List.getElem_mem hk) e.symm)).trans (h.bl.hb k hkR hkq))
def Two9 (w1 w2 A : World) : Prop := A = w1 ∨ A = w2
theorem fill_u (s : ByteArray) (hs : s.size ≤ maxLen) (R V c : Nat) (ps : List Addr) (a : Int) (hn : ps.length ≤ 1000) (w : World) (hp : FillP R ps w) (hV : V ≠ R ∧ ∀ q ∈ ps, q.block ≠ V) (hI : RL KP9 w (some ⟨V, 0, none⟩) ps)
 (r0 : w.cell? ⟨R, 0, none⟩ = some (.string s)) (r1 : w.cell? ⟨R, 1, none⟩ = some (.int .i64 a)) :
 Calls Tryz.prog 76 #[.pointer (some ⟨R, 0, none⟩), .slice (some ⟨V, 0, none⟩) ps.length c] w fun e w' =>
  (∃ vs b, fillV s ps.length a = some (vs, b) ∧ e = .returned (.tuple #[]) ∧ FillI s R ps vs b w w') ∨ (fillV s ps.length a = none ∧ e = .panicked panE ∧ FillF R ps w w') := by
 have HP := Lib.hid hp
 have HC := Lib.hid (show ∀ k (hk : k < ps.length), w.cell? ⟨V, k, none⟩ = some (.pointer (some ps[k])) from fun k hk => by
  obtain ⟨b, o, e, _, h⟩ := hI.at_ k hk
  injection e with e
  injection e with e1 e2
  subst e1 e2
  have := h w (Below.refl _ _) 0 (by decide)
  rw [show 0 + KP9.n * k + 0 = k by show 0 + 1 * k + 0 = _; omega] at this
  exact this)
 have HV := Lib.hid hV
 have H0 := Lib.hid (show FillI s R ps [] a w w from ⟨fun j hj => by simp at hj, r0, r1, fun _ => rfl, fun _ _ _ => rfl, FillF.refl R ps w⟩)
 have HF0 := Lib.hid (show fillV s ps.length a = match fillV s (ps.length - 0) a with
  | none => none
  | some (l, b) => some ([] ++ l, b) from by
   rw [Nat.sub_zero]
   cases fillV s ps.length a with
   | none => rfl
   | some p => rfl)
 obtain ⟨FV, hFV⟩ : ∃ FV, FV = fillV s ps.length a := ⟨_, rfl⟩
 rw [← hFV] at HF0 ⊢
 clear hp hV hI r0 r1 hFV
 go_enter Tryz.func76, Tryz.ntmps76
 go_wp2_with fail
 go_loopw [8] (fun i wr => ∃ (vs : List Int) (ak : Int), i = .int .i64 (vs.length : Nat) ∧ vs.length ≤ ps.length ∧ Hid (FillI s R ps vs ak w wr) ∧ Hid (FV = match fillV s (ps.length - vs.length) ak with
  | none => none
  | some (l, b) => some (vs ++ l, b))) (fun i _ => ps.length - (RowKit.intOf i).toNat)
 case atStart => exact ⟨[], a, rfl, Nat.zero_le _, H0, HF0⟩
 case round =>
  clear H0 HF0
  obtain ⟨vs, ak, rfl, hk, HI, HF⟩ := hrel
  obtain ⟨k, hkk⟩ : ∃ k, k = vs.length := ⟨_, rfl⟩
  have HK := Lib.hid hkk
  rw [← hkk] at hk HF ⊢
  clear hkk
  by_cases hlt : k < ps.length
  · have hki : (k : Int) < (ps.length : Int) := by omega
    have hik := fun W => at_p9 V ps.length c k hlt W
    have c0 : wr.cell? ⟨V, k, none⟩ = some (.pointer (some (ps[k]'hlt))) := (HI.out.far _ (fun hm => HV.out.2 _ (List.mem_of_mem_take hm) rfl) (fun e => HV.out.1 (by injection e))).trans (HC.out k hlt)
    have r0 := HI.out.r0
    have r1 := HI.out.r1
    have HLT := Lib.hid hlt
    have hst := fun v b => HI.out.step HP.out (by rw [← HK.out]; exact hlt) v b
    obtain ⟨q, hq⟩ : ∃ q, q = ps[k]'hlt := ⟨_, rfl⟩
    have hst2 : ∀ v b : Int, FillI s R ps (vs ++ [v]) b w (({ wr with drawn := wr.drawn + 1 }.setCell q (.int .i64 v)).setCell ⟨R, 1, none⟩ (.int .i64 b)) := fun v b => by
     have := hst v b
     rw [show ps[vs.length]'(by rw [← HK.out]; exact hlt) = q from by rw [hq]; congr 1; exact HK.out.symm] at this
     exact this
    have HST := Lib.hid hst2
    have hqR := HP.out.bk q (by rw [hq]; exact List.getElem_mem hlt)
    obtain ⟨hqf, u, hqu⟩ := HP.out.ok q (by rw [hq]; exact List.getElem_mem hlt)
    have hqn : q ∉ ps.take k := fun hm => by
     obtain ⟨j, hj, e⟩ := List.getElem_of_mem hm
     rw [List.length_take] at hj
     rw [List.getElem_take, hq] at e
     have := HP.out.nd _ _ _ _ e
     omega
    have hqc : wr.cell? q = some u := (HI.out.far q (by rw [← HK.out]; exact hqn) (fun e => hqR (by rw [e]))).trans hqu
    have hqz : wr.frozen? q = false := (HI.out.fz q).trans hqf
    have hRz : wr.frozen? ⟨R, 1, none⟩ = false := (HI.out.fz _).trans HP.out.rz
    rw [← hq] at c0
    have hstep : fillV s (ps.length - k) ak = match numV s ak with
     | none => none
     | some (v, b) => match fillV s (ps.length - (k + 1)) b with
      | none => none
      | some (l, c) => some (v :: l, c) := by
     rw [show ps.length - k = (ps.length - (k + 1)) + 1 by omega]
     rfl
    rw [hstep] at HF
    obtain ⟨qb, qo, qs⟩ := q
    dsimp only at hqR
    have hqR2 : qb ≠ R := hqR
    clear hst hst2 hq hstep hqn hqu hqf hlt hqR
    cases hnv : numV s ak with
    | none =>
     have HN := Lib.hid (fun W => number_no hs hnv W)
     rw [hnv] at HF
     have HFN := Lib.hid (show FV = none from HF.out)
     obtain ⟨w1, hw1⟩ : ∃ w1, { wr with drawn := wr.drawn + 1 } = w1 := ⟨_, rfl⟩
     have HB1 := Lib.hid (show FillF R ps w w1 from by rw [← hw1]; exact HI.out.bl.drew)
     have HY := Lib.hid (show ∀ A, Two9 w1 w1 A → A.cell? ⟨R, 0, none⟩ = some (.string s) ∧ A.cell? ⟨R, 1, none⟩ = some (.int .i64 ak) from fun A hA => by
      rcases hA with rfl | rfl <;> (rw [← hw1]; exact ⟨r0, r1⟩))
     clear hnv HF HST
     go_upto_region 3 with fail
     refine wp_region_K (C := Two9 w1 w1) [18] 18 #[false, false, false, false, false, false, false, false, false, false, false, false, false, false, false, false, false, false, false] (by kernel_rfl) (by kernel_rfl) (by kernel_rfl) (.inl hw1) ?_
     rw [hw1]
     refine wpAnyK_ex (i := 0) rfl (by kernel_rfl) (listed' := #[true, false, false, false, false, false, false, false, false, false, false, false, false, false, false, false, false, false, false]) rfl (fun _ _ d _ _ h => by cases d <;> exact h) (.inl rfl) ?_
     apply Exists.intro
     refine ⟨⟨by kernel_rfl, fun wy hw => ?_⟩, ?_⟩
     · (obtain ⟨y0, y1⟩ := HY.out wy hw; go_simp; try (first | (with_reducible rfl) | (with_reducible exact ⟨rfl, rfl⟩)))
     try simp only [Act.put, List.getElem_toArray, List.getElem_cons_zero, List.setIfInBounds_toArray, List.set_cons_succ, List.set_cons_zero]
     refine wpAnyK_ex (i := 1) rfl (by kernel_rfl) (listed' := #[true, true, false, false, false, false, false, false, false, false, false, false, false, false, false, false, false, false, false]) rfl (fun _ _ d _ _ h => by cases d <;> exact h) (.inl rfl) ?_
     apply Exists.intro
     refine ⟨⟨by kernel_rfl, fun wy hw => ?_⟩, ?_⟩
     · (obtain ⟨y0, y1⟩ := HY.out wy hw; go_simp; try (first | (with_reducible rfl) | (with_reducible exact ⟨rfl, rfl⟩)))
     try simp only [Act.put, List.getElem_toArray, List.getElem_cons_succ, List.getElem_cons_zero, List.setIfInBounds_toArray, List.set_cons_succ, List.set_cons_zero]
     refine wpAnyK_ex (i := 2) rfl (by kernel_rfl) (listed' := #[true, true, true, false, false, false, false, false, false, false, false, false, false, false, false, false, false, false, false]) rfl (fun _ _ d _ _ h => by cases d <;> exact h) (.inl rfl) ?_
     apply Exists.intro
     refine ⟨⟨by kernel_rfl, fun wy hw => ?_⟩, ?_⟩
     · (obtain ⟨y0, y1⟩ := HY.out wy hw; go_simp; try (first | (with_reducible rfl) | (with_reducible exact ⟨rfl, rfl⟩)))
     try simp only [Act.put, List.getElem_toArray, List.getElem_cons_succ, List.getElem_cons_zero, List.setIfInBounds_toArray, List.set_cons_succ, List.set_cons_zero]
     refine wpAnyK_ex (i := 3) rfl (by kernel_rfl) (listed' := #[true, true, true, true, false, false, false, false, false, false, false, false, false, false, false, false, false, false, false]) rfl (fun _ _ d _ _ h => by cases d <;> exact h) (.inl rfl) ?_
     apply Exists.intro
     refine ⟨⟨by kernel_rfl, fun wy hw => ?_⟩, ?_⟩
     · (obtain ⟨y0, y1⟩ := HY.out wy hw; go_simp; try (first | (with_reducible rfl) | (with_reducible exact ⟨rfl, rfl⟩)))
     try simp only [Act.put, List.getElem_toArray, List.getElem_cons_succ, List.getElem_cons_zero, List.setIfInBounds_toArray, List.set_cons_succ, List.set_cons_zero]
     refine wpAnyK_ex (i := 4) rfl (by kernel_rfl) (listed' := #[true, true, true, true, true, false, false, false, false, false, false, false, false, false, false, false, false, false, false]) rfl (fun _ _ d _ _ h => by cases d <;> exact h) (.inl rfl) ?_
     apply Exists.intro
     refine ⟨⟨by kernel_rfl, fun wy hw => ?_⟩, ?_⟩
     · (obtain ⟨y0, y1⟩ := HY.out wy hw; go_simp; try (first | (with_reducible rfl) | (with_reducible exact ⟨rfl, rfl⟩)))
     try simp only [Act.put, List.getElem_toArray, List.getElem_cons_succ, List.getElem_cons_zero, List.setIfInBounds_toArray, List.set_cons_succ, List.set_cons_zero]
     refine wpAnyK_ex (i := 5) rfl (by kernel_rfl) (listed' := #[true, true, true, true, true, true, false, false, false, false, false, false, false, false, false, false, false, false, false]) rfl (fun _ _ d _ _ h => by cases d <;> exact h) (.inl rfl) ?_
     apply Exists.intro
     refine ⟨⟨by kernel_rfl, fun wy hw => ?_⟩, ?_⟩
     · (obtain ⟨y0, y1⟩ := HY.out wy hw; go_simp; try (first | (with_reducible rfl) | (with_reducible exact ⟨rfl, rfl⟩)))
     try simp only [Act.put, List.getElem_toArray, List.getElem_cons_succ, List.getElem_cons_zero, List.setIfInBounds_toArray, List.set_cons_succ, List.set_cons_zero]
     refine wpAnyK_ex (i := 6) rfl (by kernel_rfl) (listed' := #[true, true, true, true, true, true, true, false, false, false, false, false, false, false, false, false, false, false, false]) rfl (fun _ _ d _ _ h => by cases d <;> exact h) (.inl rfl) ?_
     apply Exists.intro
     refine ⟨⟨by kernel_rfl, fun wy hw => ?_⟩, ?_⟩
     · (obtain ⟨y0, y1⟩ := HY.out wy hw; go_simp; try (first | (with_reducible rfl) | (with_reducible exact ⟨rfl, rfl⟩)))
     try simp only [Act.put, List.getElem_toArray, List.getElem_cons_succ, List.getElem_cons_zero, List.setIfInBounds_toArray, List.set_cons_succ, List.set_cons_zero]
     refine wpAnyK_ex (i := 7) rfl (by kernel_rfl) (listed' := #[true, true, true, true, true, true, true, true, false, false, false, false, false, false, false, false, false, false, false]) rfl (fun _ _ d _ _ h => by cases d <;> exact h) (.inl rfl) ?_
     apply Exists.intro
     refine ⟨⟨by kernel_rfl, fun wy hw => ?_⟩, ?_⟩
     · (obtain ⟨y0, y1⟩ := HY.out wy hw; go_simp; try (first | (with_reducible rfl) | (with_reducible exact ⟨rfl, rfl⟩)))
     try simp only [Act.put, List.getElem_toArray, List.getElem_cons_succ, List.getElem_cons_zero, List.setIfInBounds_toArray, List.set_cons_succ, List.set_cons_zero]
     refine wpAnyK_ex (i := 8) rfl (by kernel_rfl) (listed' := #[true, true, true, true, true, true, true, true, true, false, false, false, false, false, false, false, false, false, false]) rfl (fun _ _ d _ _ h => by cases d <;> exact h) (.inl rfl) ?_
     apply Exists.intro
     refine ⟨⟨by kernel_rfl, fun wy hw => ?_⟩, ?_⟩
     · (obtain ⟨y0, y1⟩ := HY.out wy hw; go_simp; try (first | (with_reducible rfl) | (with_reducible exact ⟨rfl, rfl⟩)))
     try simp only [Act.put, List.getElem_toArray, List.getElem_cons_succ, List.getElem_cons_zero, List.setIfInBounds_toArray, List.set_cons_succ, List.set_cons_zero]
     refine wpAnyK_ex (i := 9) rfl (by kernel_rfl) (listed' := #[true, true, true, true, true, true, true, true, true, true, false, false, false, false, false, false, false, false, false]) rfl (fun _ _ d _ _ h => by cases d <;> exact h) (.inl rfl) ?_
     apply Exists.intro
     refine ⟨⟨by kernel_rfl, fun wy hw => ?_⟩, ?_⟩
     · (obtain ⟨y0, y1⟩ := HY.out wy hw; go_simp; try (first | (with_reducible rfl) | (with_reducible exact ⟨rfl, rfl⟩)))
     try simp only [Act.put, List.getElem_toArray, List.getElem_cons_succ, List.getElem_cons_zero, List.setIfInBounds_toArray, List.set_cons_succ, List.set_cons_zero]
     refine wpAnyK_fork1 10 (by kernel_rfl) ?_
     refine wpOpK_step rfl (by kernel_rfl) (listed' := #[true, true, true, true, true, true, true, true, true, true, true, false, false, false, false, false, false, false, false]) rfl (by kernel_rfl) (fun K hK => ?_)
     go_simp
     refine (HN.out _).mono ?_
     rintro e z ⟨rfl, hz⟩
     rw [hz]
     exact ⟨rfl, .inr ⟨HFN.out, rfl, HB1.out⟩⟩
    | some p =>
     obtain ⟨v, b⟩ := p
     have HN := Lib.hid (fun W => number_yes hs hnv W)
     rw [hnv] at HF
     have HF2 := Lib.hid (show FV = match fillV s (ps.length - (k + 1)) b with
      | none => none
      | some (l, c) => some ((vs ++ [v]) ++ l, c) from by
       rw [HF.out]
       dsimp only
       cases fillV s (ps.length - (k + 1)) b with
       | none => rfl
       | some p => obtain ⟨l, c⟩ := p; dsimp only; rw [List.append_assoc]; rfl)
     have HST2 := Lib.hid (HST.out v b)
     obtain ⟨w1, hw1⟩ : ∃ w1, { wr with drawn := wr.drawn + 1 } = w1 := ⟨_, rfl⟩
     obtain ⟨w2, hw2⟩ : ∃ w2, w1.setCell ⟨qb, qo, qs⟩ (.int .i64 v) = w2 := ⟨_, rfl⟩
     have h1c : w1.cell? ⟨qb, qo, qs⟩ = some u := by rw [← hw1]; exact hqc
     have h1z : w1.frozen? ⟨qb, qo, qs⟩ = false := by rw [← hw1]; exact hqz
     have h2c : w2.cell? ⟨R, 1, none⟩ = some (.int .i64 ak) := by
      rw [← hw2]
      refine (World.cell?_setCell_other _ _ _ _ (fun e => hqR2 (by injection e))).trans ?_
      rw [← hw1]; exact r1
     have h2z : w2.frozen? ⟨R, 1, none⟩ = false := by
      rw [← hw2, World.frozen?_setCell, ← hw1]; exact hRz
     have HY := Lib.hid (show ∀ A, Two9 w1 w2 A → A.cell? ⟨R, 0, none⟩ = some (.string s) ∧ A.cell? ⟨R, 1, none⟩ = some (.int .i64 ak) from fun A hA => by
      rcases hA with rfl | rfl
      · rw [← hw1]; exact ⟨r0, r1⟩
      · refine ⟨?_, h2c⟩
        rw [← hw2]
        refine (World.cell?_setCell_other _ _ _ _ (fun e => hqR2 (by injection e))).trans ?_
        rw [← hw1]; exact r0)
     rw [hw1, hw2] at HST2
     clear hnv HF HST
     go_upto_region 3 with fail
     refine wp_region_K (C := Two9 w1 w2) [18] 18 #[false, false, false, false, false, false, false, false, false, false, false, false, false, false, false, false, false, false, false] (by kernel_rfl) (by kernel_rfl) (by kernel_rfl) (.inl hw1) ?_
     rw [hw1]
     clear hw1
     refine wpAnyK_ex (i := 0) rfl (by kernel_rfl) (listed' := #[true, false, false, false, false, false, false, false, false, false, false, false, false, false, false, false, false, false, false]) rfl (fun _ _ d _ _ h => by cases d <;> exact h) (.inl rfl) ?_
     apply Exists.intro
     refine ⟨⟨by kernel_rfl, fun wy hw => ?_⟩, ?_⟩
     · (obtain ⟨y0, y1⟩ := HY.out wy hw; go_simp; try (first | (with_reducible rfl) | (with_reducible exact ⟨rfl, rfl⟩)))
     try simp only [Act.put, List.getElem_toArray, List.getElem_cons_zero, List.setIfInBounds_toArray, List.set_cons_succ, List.set_cons_zero]
     refine wpAnyK_ex (i := 1) rfl (by kernel_rfl) (listed' := #[true, true, false, false, false, false, false, false, false, false, false, false, false, false, false, false, false, false, false]) rfl (fun _ _ d _ _ h => by cases d <;> exact h) (.inl rfl) ?_
     apply Exists.intro
     refine ⟨⟨by kernel_rfl, fun wy hw => ?_⟩, ?_⟩
     · (obtain ⟨y0, y1⟩ := HY.out wy hw; go_simp; try (first | (with_reducible rfl) | (with_reducible exact ⟨rfl, rfl⟩)))
     try simp only [Act.put, List.getElem_toArray, List.getElem_cons_succ, List.getElem_cons_zero, List.setIfInBounds_toArray, List.set_cons_succ, List.set_cons_zero]
     refine wpAnyK_ex (i := 2) rfl (by kernel_rfl) (listed' := #[true, true, true, false, false, false, false, false, false, false, false, false, false, false, false, false, false, false, false]) rfl (fun _ _ d _ _ h => by cases d <;> exact h) (.inl rfl) ?_
     apply Exists.intro
     refine ⟨⟨by kernel_rfl, fun wy hw => ?_⟩, ?_⟩
     · (obtain ⟨y0, y1⟩ := HY.out wy hw; go_simp; try (first | (with_reducible rfl) | (with_reducible exact ⟨rfl, rfl⟩)))
     try simp only [Act.put, List.getElem_toArray, List.getElem_cons_succ, List.getElem_cons_zero, List.setIfInBounds_toArray, List.set_cons_succ, List.set_cons_zero]
     refine wpAnyK_ex (i := 3) rfl (by kernel_rfl) (listed' := #[true, true, true, true, false, false, false, false, false, false, false, false, false, false, false, false, false, false, false]) rfl (fun _ _ d _ _ h => by cases d <;> exact h) (.inl rfl) ?_
     apply Exists.intro
     refine ⟨⟨by kernel_rfl, fun wy hw => ?_⟩, ?_⟩
     · (obtain ⟨y0, y1⟩ := HY.out wy hw; go_simp; try (first | (with_reducible rfl) | (with_reducible exact ⟨rfl, rfl⟩)))
     try simp only [Act.put, List.getElem_toArray, List.getElem_cons_succ, List.getElem_cons_zero, List.setIfInBounds_toArray, List.set_cons_succ, List.set_cons_zero]
     refine wpAnyK_ex (i := 4) rfl (by kernel_rfl) (listed' := #[true, true, true, true, true, false, false, false, false, false, false, false, false, false, false, false, false, false, false]) rfl (fun _ _ d _ _ h => by cases d <;> exact h) (.inl rfl) ?_
     apply Exists.intro
     refine ⟨⟨by kernel_rfl, fun wy hw => ?_⟩, ?_⟩
     · (obtain ⟨y0, y1⟩ := HY.out wy hw; go_simp; try (first | (with_reducible rfl) | (with_reducible exact ⟨rfl, rfl⟩)))
     try simp only [Act.put, List.getElem_toArray, List.getElem_cons_succ, List.getElem_cons_zero, List.setIfInBounds_toArray, List.set_cons_succ, List.set_cons_zero]
     refine wpAnyK_ex (i := 5) rfl (by kernel_rfl) (listed' := #[true, true, true, true, true, true, false, false, false, false, false, false, false, false, false, false, false, false, false]) rfl (fun _ _ d _ _ h => by cases d <;> exact h) (.inl rfl) ?_
     apply Exists.intro
     refine ⟨⟨by kernel_rfl, fun wy hw => ?_⟩, ?_⟩
     · (obtain ⟨y0, y1⟩ := HY.out wy hw; go_simp; try (first | (with_reducible rfl) | (with_reducible exact ⟨rfl, rfl⟩)))
     try simp only [Act.put, List.getElem_toArray, List.getElem_cons_succ, List.getElem_cons_zero, List.setIfInBounds_toArray, List.set_cons_succ, List.set_cons_zero]
     refine wpAnyK_ex (i := 6) rfl (by kernel_rfl) (listed' := #[true, true, true, true, true, true, true, false, false, false, false, false, false, false, false, false, false, false, false]) rfl (fun _ _ d _ _ h => by cases d <;> exact h) (.inl rfl) ?_
     apply Exists.intro
     refine ⟨⟨by kernel_rfl, fun wy hw => ?_⟩, ?_⟩
     · (obtain ⟨y0, y1⟩ := HY.out wy hw; go_simp; try (first | (with_reducible rfl) | (with_reducible exact ⟨rfl, rfl⟩)))
     try simp only [Act.put, List.getElem_toArray, List.getElem_cons_succ, List.getElem_cons_zero, List.setIfInBounds_toArray, List.set_cons_succ, List.set_cons_zero]
     refine wpAnyK_ex (i := 7) rfl (by kernel_rfl) (listed' := #[true, true, true, true, true, true, true, true, false, false, false, false, false, false, false, false, false, false, false]) rfl (fun _ _ d _ _ h => by cases d <;> exact h) (.inl rfl) ?_
     apply Exists.intro
     refine ⟨⟨by kernel_rfl, fun wy hw => ?_⟩, ?_⟩
     · (obtain ⟨y0, y1⟩ := HY.out wy hw; go_simp; try (first | (with_reducible rfl) | (with_reducible exact ⟨rfl, rfl⟩)))
     try simp only [Act.put, List.getElem_toArray, List.getElem_cons_succ, List.getElem_cons_zero, List.setIfInBounds_toArray, List.set_cons_succ, List.set_cons_zero]
     refine wpAnyK_ex (i := 8) rfl (by kernel_rfl) (listed' := #[true, true, true, true, true, true, true, true, true, false, false, false, false, false, false, false, false, false, false]) rfl (fun _ _ d _ _ h => by cases d <;> exact h) (.inl rfl) ?_
     apply Exists.intro
     refine ⟨⟨by kernel_rfl, fun wy hw => ?_⟩, ?_⟩
     · (obtain ⟨y0, y1⟩ := HY.out wy hw; go_simp; try (first | (with_reducible rfl) | (with_reducible exact ⟨rfl, rfl⟩)))
     try simp only [Act.put, List.getElem_toArray, List.getElem_cons_succ, List.getElem_cons_zero, List.setIfInBounds_toArray, List.set_cons_succ, List.set_cons_zero]
     refine wpAnyK_ex (i := 9) rfl (by kernel_rfl) (listed' := #[true, true, true, true, true, true, true, true, true, true, false, false, false, false, false, false, false, false, false]) rfl (fun _ _ d _ _ h => by cases d <;> exact h) (.inl rfl) ?_
     apply Exists.intro
     refine ⟨⟨by kernel_rfl, fun wy hw => ?_⟩, ?_⟩
     · (obtain ⟨y0, y1⟩ := HY.out wy hw; go_simp; try (first | (with_reducible rfl) | (with_reducible exact ⟨rfl, rfl⟩)))
     try simp only [Act.put, List.getElem_toArray, List.getElem_cons_succ, List.getElem_cons_zero, List.setIfInBounds_toArray, List.set_cons_succ, List.set_cons_zero]
     refine wpAnyK_fork1 10 (by kernel_rfl) ?_
     refine wpOpK_step rfl (by kernel_rfl) (listed' := #[true, true, true, true, true, true, true, true, true, true, true, false, false, false, false, false, false, false, false]) rfl (by kernel_rfl) (fun K hK => ?_)
     go_simp
     refine (HN.out _).mono ?_
     rintro e z ⟨rfl, hz⟩
     rw [hz]
     refine hK _ _ (.inl rfl) ?_
     clear hK K hz
     try simp only [Act.put, List.getElem_toArray, List.getElem_cons_succ, List.getElem_cons_zero, List.setIfInBounds_toArray, List.set_cons_succ, List.set_cons_zero]
     refine wpAnyK_ex (i := 11) rfl (by kernel_rfl) (listed' := #[true, true, true, true, true, true, true, true, true, true, true, true, false, false, false, false, false, false, false]) rfl (fun _ _ d _ _ h => by cases d <;> exact h) (.inl rfl) ?_
     apply Exists.intro
     refine ⟨⟨by kernel_rfl, fun wy hw => ?_⟩, ?_⟩
     · (obtain ⟨y0, y1⟩ := HY.out wy hw; go_simp; try (first | (with_reducible rfl) | (with_reducible exact ⟨rfl, rfl⟩)))
     try simp only [Act.put, List.getElem_toArray, List.getElem_cons_succ, List.getElem_cons_zero, List.setIfInBounds_toArray, List.set_cons_succ, List.set_cons_zero]
     refine wpAnyK_ex (i := 12) rfl (by kernel_rfl) (listed' := #[true, true, true, true, true, true, true, true, true, true, true, true, true, false, false, false, false, false, false]) rfl (fun _ _ d _ _ h => by cases d <;> exact h) (.inl rfl) ?_
     apply Exists.intro
     refine ⟨⟨by kernel_rfl, fun wy hw => ?_⟩, ?_⟩
     · (obtain ⟨y0, y1⟩ := HY.out wy hw; go_simp; try (first | (with_reducible rfl) | (with_reducible exact ⟨rfl, rfl⟩)))
     try simp only [Act.put, List.getElem_toArray, List.getElem_cons_succ, List.getElem_cons_zero, List.setIfInBounds_toArray, List.set_cons_succ, List.set_cons_zero]
     refine wpAnyK_ex (i := 13) rfl (by kernel_rfl) (listed' := #[true, true, true, true, true, true, true, true, true, true, true, true, true, true, false, false, false, false, false]) rfl (fun _ _ d _ _ h => by cases d <;> exact h) (.inl rfl) ?_
     apply Exists.intro
     refine ⟨⟨by kernel_rfl, fun wy hw => ?_⟩, ?_⟩
     · (obtain ⟨y0, y1⟩ := HY.out wy hw; go_simp; try (first | (with_reducible rfl) | (with_reducible exact ⟨rfl, rfl⟩)))
     try simp only [Act.put, List.getElem_toArray, List.getElem_cons_succ, List.getElem_cons_zero, List.setIfInBounds_toArray, List.set_cons_succ, List.set_cons_zero]
     refine wpAnyK_ex (i := 14) rfl (by kernel_rfl) (listed' := #[true, true, true, true, true, true, true, true, true, true, true, true, true, true, true, false, false, false, false]) rfl (fun _ _ d _ _ h => by cases d <;> exact h) (.inl rfl) ?_
     apply Exists.intro
     refine ⟨⟨by kernel_rfl, fun wy hw => ?_⟩, ?_⟩
     · (obtain ⟨y0, y1⟩ := HY.out wy hw; go_simp; try (first | (with_reducible rfl) | (with_reducible exact ⟨rfl, rfl⟩)))
     try simp only [Act.put, List.getElem_toArray, List.getElem_cons_succ, List.getElem_cons_zero, List.setIfInBounds_toArray, List.set_cons_succ, List.set_cons_zero]
     refine wpAnyK_fork1 15 (by kernel_rfl) ?_
     refine wpOpK_step rfl (by kernel_rfl) (listed' := #[true, true, true, true, true, true, true, true, true, true, true, true, true, true, true, true, false, false, false]) rfl (by kernel_rfl) (fun K hK => ?_)
     go_simp
     refine hK _ _ (.inr rfl) ?_
     clear hK K
     try simp only [Act.put, List.getElem_toArray, List.getElem_cons_succ, List.getElem_cons_zero, List.setIfInBounds_toArray, List.set_cons_succ, List.set_cons_zero]
     refine wpAnyK_ex (i := 16) rfl (by kernel_rfl) (listed' := #[true, true, true, true, true, true, true, true, true, true, true, true, true, true, true, true, true, false, false]) rfl (fun _ _ d _ _ h => by cases d <;> exact h) (.inr rfl) ?_
     apply Exists.intro
     refine ⟨⟨by kernel_rfl, fun wy hw => ?_⟩, ?_⟩
     · (obtain ⟨y0, y1⟩ := HY.out wy hw; go_simp; try (first | (with_reducible rfl) | (with_reducible exact ⟨rfl, rfl⟩)))
     try simp only [Act.put, List.getElem_toArray, List.getElem_cons_succ, List.getElem_cons_zero, List.setIfInBounds_toArray, List.set_cons_succ, List.set_cons_zero]
     refine wpAnyK_ex (i := 17) rfl (by kernel_rfl) (listed' := #[true, true, true, true, true, true, true, true, true, true, true, true, true, true, true, true, true, true, false]) rfl (fun _ _ d _ _ h => by cases d <;> exact h) (.inr rfl) ?_
     apply Exists.intro
     refine ⟨⟨by kernel_rfl, fun wy hw => ?_⟩, ?_⟩
     · (obtain ⟨y0, y1⟩ := HY.out wy hw; go_simp; try (first | (with_reducible rfl) | (with_reducible exact ⟨rfl, rfl⟩)))
     try simp only [Act.put, List.getElem_toArray, List.getElem_cons_succ, List.getElem_cons_zero, List.setIfInBounds_toArray, List.set_cons_succ, List.set_cons_zero]
     refine wpAnyK_end (by kernel_rfl) ?_
     try simp only [pickOps, List.filterMap_cons, List.filterMap_nil, List.getElem?_toArray, List.getElem?_cons_succ, List.getElem?_cons_zero]
     go_wp2_with fail
     go_roundw
     case rel => exact ⟨vs ++ [v], b, by rw [List.length_append, ← HK.out]; go_num, by rw [List.length_append, ← HK.out]; exact HLT.out, HST2, by rw [List.length_append, ← HK.out]; exact HF2⟩
     case measure => have := HLT.out; simp [RowKit.intOf]; omega
  · have hke : k = ps.length := by omega
    have hki : ¬ (k : Int) < (ps.length : Int) := by omega
    have HFN := Lib.hid (show FV = some (vs, ak) from by rw [HF.out, hke, Nat.sub_self]; show some (vs ++ [], ak) = _; rw [List.append_nil])
    clear hke hlt
    go_wp2_with fail
    go_end0
    exact .inl ⟨vs, ak, HFN.out, rfl, HI.out⟩
end Go.Proofs.YtnpfhcnjkekhbaaGreatDoor

namespace Go.Proofs.YtnpfhcnjkekhbaaGreatDoor
open Go Go.Proofs Go.RowKit Go.Lib Go.Sort
open W1 (scan unz scan_is_enc unz_range)
theorem numV_fit {s : ByteArray} {a v b : Int} (h : numV s a = some (v, b)) : FitI v := by
 unfold numV at h
 split at h
 · split at h
   · cases h
   · rename_i z n hz
     simp only [Option.some.injEq, Prod.mk.injEq] at h
     rw [← h.1]
     exact unz_range (scan_is_enc hz).1
 · cases h
theorem fillV_fit (s : ByteArray) : ∀ (n : Nat) (a : Int) (l : List Int) (c : Int), fillV s n a = some (l, c) → ∀ x ∈ l, FitI x
 | 0, a, l, c, h => by
  simp only [fillV, Option.some.injEq, Prod.mk.injEq] at h
  rw [← h.1]
  intro x hx
  cases hx
 | n + 1, a, l, c, h => by
  unfold fillV at h
  split at h
  · cases h
  · rename_i h1
    split at h
    · cases h
    · rename_i h2
      simp only [Option.some.injEq, Prod.mk.injEq] at h
      rw [← h.1]
      intro x hx
      rcases List.mem_cons.1 hx with rfl | hx
      · exact numV_fit h1
      · exact fillV_fit s n _ _ _ h2 x hx
def evG (s : ByteArray) (a : Int) : Option (Ev × Int) := match fillV s 12 a with
 | none => none
 | some (l, b) => if evB (evOf l) = true then some (evOf l, b) else none
theorem fit_wf {x : Int} (h : FitI x) : (Lit.int .i64 x).wf = true := by
 have := h.1; have := h.2
 show (decide (IntKind.i64.min ≤ x) && decide (x ≤ IntKind.i64.max)) = true
 rw [Bool.and_eq_true, decide_eq_true_eq, decide_eq_true_eq]
 exact ⟨show -9223372036854775808 ≤ x by omega, show x ≤ 9223372036854775807 by omega⟩
theorem grownBy_setC9 {w W : World} {R : Option Nat} {p : Addr} {v : Value} (h : w.grownBy W R) (hp : w.heap.size ≤ p.block) : w.grownBy (W.setCell p v) R :=
 ⟨h.os, h.tape, h.output, by simpa using h.size, fun k hk hr => (Below.heap_setCell W p v k (by omega)).trans (h.block k hk hr)⟩
theorem grown_then9 {R : Option Nat} {w w4 w5 : World} (h : w.grownBy w4 R) (b : Below w4.heap.size w4 w5) : w.grownBy w5 R :=
 ⟨b.os.trans h.os, b.tape.trans h.tape, b.output.trans h.output, Nat.le_trans h.size b.size, fun k hk hr => (b.block k (Nat.lt_of_lt_of_le hk h.size)).trans (h.block k hk hr)⟩
theorem grown_fill9 {R : Nat} {ps : List Addr} {w w3 w4 : World} (h : Below w.heap.size w w3) (hF : FillF R ps w3 w4) (hq : ∀ q ∈ ps, w.heap.size ≤ q.block) : w.grownBy w4 (some R) :=
 ⟨hF.os.trans h.os, hF.tape.trans h.tape, hF.output.trans h.output, by rw [hF.size]; exact h.size, fun k hk hr => (hF.hb k (fun e => hr (by rw [e])) (fun q hm e => by have := hq q hm; omega)).trans (h.block k hk)⟩
theorem below_grown9 {R : Nat} {w W : World} (h : w.grownBy W (some R)) (hR : R ≤ w.heap.size) : Below R w W := ⟨h.os, h.tape, h.output, h.size, fun k hk => h.block k (by omega) (fun e => by injection e; omega)⟩
theorem grown_sets9 {w W : World} {R : Option Nat} {v0 v1 v2 v3 v4 v5 v6 v7 v8 v9 v10 v11 : Value} (h : w.grownBy W R) : w.grownBy ((((((((((((W.setCell ⟨w.heap.size, 0, none⟩ v0).setCell ⟨w.heap.size, 1, none⟩ v1).setCell ⟨w.heap.size, 2, none⟩ v2).setCell ⟨w.heap.size, 3, none⟩ v3).setCell ⟨w.heap.size, 4, none⟩ v4).setCell ⟨w.heap.size, 5, none⟩ v5).setCell ⟨w.heap.size, 6, none⟩ v6).setCell ⟨w.heap.size, 7, none⟩ v7).setCell ⟨w.heap.size, 8, none⟩ v8).setCell ⟨w.heap.size, 9, none⟩ v9).setCell ⟨w.heap.size, 10, none⟩ v10).setCell ⟨w.heap.size, 11, none⟩ v11) R :=
 (grownBy_setC9 (grownBy_setC9 (grownBy_setC9 (grownBy_setC9 (grownBy_setC9 (grownBy_setC9 (grownBy_setC9 (grownBy_setC9 (grownBy_setC9 (grownBy_setC9 (grownBy_setC9 (grownBy_setC9 h (Nat.le_refl _)) (Nat.le_refl _)) (Nat.le_refl _)) (Nat.le_refl _)) (Nat.le_refl _)) (Nat.le_refl _)) (Nat.le_refl _)) (Nat.le_refl _)) (Nat.le_refl _)) (Nat.le_refl _)) (Nat.le_refl _)) (Nat.le_refl _))
theorem far_sets9 {W : World} {B R : Nat} {s : ByteArray} {b : Int} {v0 v1 v2 v3 v4 v5 v6 v7 v8 v9 v10 v11 : Value} (hne : R ≠ B) (h : W.cell? ⟨R, 0, none⟩ = some (.string s) ∧ W.cell? ⟨R, 1, none⟩ = some (.int .i64 b) ∧ W.frozen? ⟨R, 1, none⟩ = false) :
 ((((((((((((W.setCell ⟨B, 0, none⟩ v0).setCell ⟨B, 1, none⟩ v1).setCell ⟨B, 2, none⟩ v2).setCell ⟨B, 3, none⟩ v3).setCell ⟨B, 4, none⟩ v4).setCell ⟨B, 5, none⟩ v5).setCell ⟨B, 6, none⟩ v6).setCell ⟨B, 7, none⟩ v7).setCell ⟨B, 8, none⟩ v8).setCell ⟨B, 9, none⟩ v9).setCell ⟨B, 10, none⟩ v10).setCell ⟨B, 11, none⟩ v11).cell? ⟨R, 0, none⟩ = some (.string s) ∧ ((((((((((((W.setCell ⟨B, 0, none⟩ v0).setCell ⟨B, 1, none⟩ v1).setCell ⟨B, 2, none⟩ v2).setCell ⟨B, 3, none⟩ v3).setCell ⟨B, 4, none⟩ v4).setCell ⟨B, 5, none⟩ v5).setCell ⟨B, 6, none⟩ v6).setCell ⟨B, 7, none⟩ v7).setCell ⟨B, 8, none⟩ v8).setCell ⟨B, 9, none⟩ v9).setCell ⟨B, 10, none⟩ v10).setCell ⟨B, 11, none⟩ v11).cell? ⟨R, 1, none⟩ = some (.int .i64 b) ∧ ((((((((((((W.setCell ⟨B, 0, none⟩ v0).setCell ⟨B, 1, none⟩ v1).setCell ⟨B, 2, none⟩ v2).setCell ⟨B, 3, none⟩ v3).setCell ⟨B, 4, none⟩ v4).setCell ⟨B, 5, none⟩ v5).setCell ⟨B, 6, none⟩ v6).setCell ⟨B, 7, none⟩ v7).setCell ⟨B, 8, none⟩ v8).setCell ⟨B, 9, none⟩ v9).setCell ⟨B, 10, none⟩ v10).setCell ⟨B, 11, none⟩ v11).frozen? ⟨R, 1, none⟩ = false := by
 have far : ∀ (X : World) (i j : Nat) (v : Value), (X.setCell ⟨B, i, none⟩ v).cell? ⟨R, j, none⟩ = X.cell? ⟨R, j, none⟩ := fun X i j v => World.cell?_setCell_other _ _ _ _ (fun e => hne (by injection e with e1; exact e1.symm))
 refine ⟨?_, ?_, ?_⟩
 · simp only [far]; exact h.1
 · simp only [far]; exact h.2.1
 · simp only [World.frozen?_setCell]; exact h.2.2
def evPs (E : Nat) : List Addr := [⟨E, 0, none⟩, ⟨E, 1, none⟩, ⟨E, 2, none⟩, ⟨E, 3, none⟩, ⟨E, 4, none⟩, ⟨E, 5, none⟩, ⟨E, 6, none⟩, ⟨E, 7, none⟩, ⟨E, 8, none⟩, ⟨E, 9, none⟩, ⟨E, 10, none⟩, ⟨E, 11, none⟩]
theorem evPs_get (E i : Nat) (h : i < (evPs E).length) : (evPs E)[i] = ⟨E, i, none⟩ := by
 have h : i < 12 := h
 match i, h with
 | 0, _ => rfl
 | 1, _ => rfl
 | 2, _ => rfl
 | 3, _ => rfl
 | 4, _ => rfl
 | 5, _ => rfl
 | 6, _ => rfl
 | 7, _ => rfl
 | 8, _ => rfl
 | 9, _ => rfl
 | 10, _ => rfl
 | 11, _ => rfl
theorem evPs_mem {E : Nat} {q : Addr} (h : q ∈ evPs E) : ∃ i, i < 12 ∧ q = ⟨E, i, none⟩ := by
 obtain ⟨i, hi, rfl⟩ := List.getElem_of_mem h
 exact ⟨i, hi, evPs_get E i hi⟩
theorem twelve {l : List Int} (h : l.length = 12) : ∃ v0 v1 v2 v3 v4 v5 v6 v7 v8 v9 v10 v11, l = [v0, v1, v2, v3, v4, v5, v6, v7, v8, v9, v10, v11] := by
 match l, h with
 | [v0, v1, v2, v3, v4, v5, v6, v7, v8, v9, v10, v11], _ => exact ⟨v0, v1, v2, v3, v4, v5, v6, v7, v8, v9, v10, v11, rfl⟩
theorem event9_u (s : ByteArray) (hs : s.size ≤ maxLen) (R : Nat) (a : Int) (w : World) (hRd : Rdy w) (hRg : 0 < R) (hR : R < w.heap.size) (r0 : w.cell? ⟨R, 0, none⟩ = some (.string s)) (r1 : w.cell? ⟨R, 1, none⟩ = some (.int .i64 a)) (rz : w.frozen? ⟨R, 1, none⟩ = false) :
 Calls Tryz.prog 54 #[.pointer (some ⟨R, 0, none⟩)] w fun e w' => w.grownBy w' (some R) ∧
  ((∃ x b, evG s a = some (x, b) ∧ e = .returned x.val ∧ w'.cell? ⟨R, 0, none⟩ = some (.string s) ∧ w'.cell? ⟨R, 1, none⟩ = some (.int .i64 b) ∧ w'.frozen? ⟨R, 1, none⟩ = false) ∨ (evG s a = none ∧ e = .panicked panE)) := by
 obtain ⟨w1, V1, Z1, K1, B1⟩ := lay8 w zE.cells 23
 have V1 := (show w.alloc (.cells #[.int .i64 0, .int .i64 0, .int .i64 0, .int .i64 0, .int .i64 0, .int .i64 0, .int .i64 0, .int .i64 0, .int .i64 0, .int .i64 0, .int .i64 0, .int .i64 0] 23) = w1 from V1)
 obtain ⟨w2, V2, Z2, K2, B2⟩ := lay8 w1 zE.cells 23
 have V2 := (show w1.alloc (.cells #[.int .i64 0, .int .i64 0, .int .i64 0, .int .i64 0, .int .i64 0, .int .i64 0, .int .i64 0, .int .i64 0, .int .i64 0, .int .i64 0, .int .i64 0, .int .i64 0] 23) = w2 from V2)
 obtain ⟨w3, V3, Z3, K3, B3⟩ := lay8 w2 ((evPs (w.heap.size + 1)).map fun q => .pointer (some q)) 110
 have V3 := (show w2.alloc (.cells #[.pointer (some ⟨w.heap.size + 1, 0, none⟩), .pointer (some ⟨w.heap.size + 1, 1, none⟩), .pointer (some ⟨w.heap.size + 1, 2, none⟩), .pointer (some ⟨w.heap.size + 1, 3, none⟩), .pointer (some ⟨w.heap.size + 1, 4, none⟩), .pointer (some ⟨w.heap.size + 1, 5, none⟩), .pointer (some ⟨w.heap.size + 1, 6, none⟩), .pointer (some ⟨w.heap.size + 1, 7, none⟩), .pointer (some ⟨w.heap.size + 1, 8, none⟩), .pointer (some ⟨w.heap.size + 1, 9, none⟩), .pointer (some ⟨w.heap.size + 1, 10, none⟩), .pointer (some ⟨w.heap.size + 1, 11, none⟩)] 110) = w3 from V3)
 rw [Z1] at Z2 K2 B2
 rw [Z2] at Z3 K3 B3
 have KE2 := K2.up B3 (by omega)
 have KE1 := (K1.up B2 (by omega)).up B3 (by omega)
 have hB3 : Below w.heap.size w w3 := B1.trans ((B2.mono (by omega)).trans (B3.mono (by omega)))
 have HFP := Lib.hid (show FillP R (evPs (w.heap.size + 1)) w3 from by
  refine ⟨fun i j hi hj e => ?_, fun q hq => ?_, fun q hq => ?_, (hB3.frozen (p := ⟨R, 1, none⟩) hR).trans rz⟩
  · rw [evPs_get _ i hi, evPs_get _ j hj] at e
    injection e
  · obtain ⟨i, _, rfl⟩ := evPs_mem hq
    show w.heap.size + 1 ≠ R
    omega
  · obtain ⟨i, hi, rfl⟩ := evPs_mem hq
    have := KE2 i hi
    exact ⟨this.2, _, this.1⟩)
 have HFI := Lib.hid (fill_u s hs R (w.heap.size + 1 + 1) 12 (evPs (w.heap.size + 1)) a (show 12 ≤ 1000 by decide) w3 HFP.out ⟨by omega, fun q hq => by obtain ⟨i, _, rfl⟩ := evPs_mem hq; show w.heap.size + 1 ≠ w.heap.size + 1 + 1; omega⟩
  (.inr ⟨_, 0, rfl, by omega, fun i hi j hj => by
   have hj0 : j = 0 := by have : j < 1 := hj; omega
   subst hj0
   have h := (K3 i (by rw [List.length_map]; exact hi)).1
   rw [List.getElem_map] at h
   rw [show 0 + KP9.n * i + 0 = i by show 0 + 1 * i + 0 = i; omega, h]
   rfl⟩) ((hB3.cell (p := ⟨R, 0, none⟩) hR).trans r0) ((hB3.cell (p := ⟨R, 1, none⟩) hR).trans r1))
 have HFI := Lib.hid (show Calls Tryz.prog 76 #[.pointer (some ⟨R, 0, none⟩), .slice (some ⟨w.heap.size + 1 + 1, 0, none⟩) 12 12] w3 _ from HFI.out)
 have HRD := Lib.hid hRd
 have HKE1 := Lib.hid KE1
 have HB3 := Lib.hid hB3
 have HZ3 := Lib.hid (show w3.heap.size = w.heap.size + 1 + 1 + 1 from Z3)
 have HG := Lib.hid (show evG s a = match fillV s 12 a with
  | none => none
  | some (l, b) => if evB (evOf l) = true then some (evOf l, b) else none from rfl)
 clear K1 K2 K3 B1 B2 B3 KE1 KE2 hB3 hRd r0 r1 rz Z3
 go_enter Tryz.func54, Tryz.ntmps54
 go_wp2_with fail
 refine HFI.out.mono ?_
 rintro e w4 (⟨vs, b, hf, rfl, hI⟩ | ⟨hf, rfl, hF⟩)
 rotate_left
 · have HGR := Lib.hid (show w.grownBy w4 (some R) from grown_fill9 HB3.out hF (fun q hq => by obtain ⟨i, _, rfl⟩ := evPs_mem hq; exact Nat.le_succ _))
   have HN := Lib.hid (show evG s a = none from by rw [HG.out]; rw [show fillV s 12 a = none from hf])
   clear V1 V2 V3 hf hF
   exact ⟨rfl, HGR.out, .inr ⟨HN.out, rfl⟩⟩
 have HGR := Lib.hid (show w.grownBy w4 (some R) from grown_fill9 HB3.out hI.bl (fun q hq => by obtain ⟨i, _, rfl⟩ := evPs_mem hq; exact Nat.le_succ _))
 have hf := (show fillV s 12 a = some (vs, b) from hf)
 obtain ⟨v0, v1, v2, v3, v4, v5, v6, v7, v8, v9, v10, v11, rfl⟩ := twelve (fillV_len s 12 a vs b hf)
 have hwf := fit_wf (fillV_fit s 12 a _ b hf v3 (by simp))
 have e0 : w4.cell? ⟨w.heap.size + 1, 0, none⟩ = some (.int .i64 v0) := hI.vals 0 (by simp) (show 0 < 12 by decide)
 have e1 : w4.cell? ⟨w.heap.size + 1, 1, none⟩ = some (.int .i64 v1) := hI.vals 1 (by simp) (show 1 < 12 by decide)
 have e2 : w4.cell? ⟨w.heap.size + 1, 2, none⟩ = some (.int .i64 v2) := hI.vals 2 (by simp) (show 2 < 12 by decide)
 have e3 : w4.cell? ⟨w.heap.size + 1, 3, none⟩ = some (.int .i64 v3) := hI.vals 3 (by simp) (show 3 < 12 by decide)
 have e4 : w4.cell? ⟨w.heap.size + 1, 4, none⟩ = some (.int .i64 v4) := hI.vals 4 (by simp) (show 4 < 12 by decide)
 have e5 : w4.cell? ⟨w.heap.size + 1, 5, none⟩ = some (.int .i64 v5) := hI.vals 5 (by simp) (show 5 < 12 by decide)
 have e6 : w4.cell? ⟨w.heap.size + 1, 6, none⟩ = some (.int .i64 v6) := hI.vals 6 (by simp) (show 6 < 12 by decide)
 have e7 : w4.cell? ⟨w.heap.size + 1, 7, none⟩ = some (.int .i64 v7) := hI.vals 7 (by simp) (show 7 < 12 by decide)
 have e8 : w4.cell? ⟨w.heap.size + 1, 8, none⟩ = some (.int .i64 v8) := hI.vals 8 (by simp) (show 8 < 12 by decide)
 have e9 : w4.cell? ⟨w.heap.size + 1, 9, none⟩ = some (.int .i64 v9) := hI.vals 9 (by simp) (show 9 < 12 by decide)
 have e10 : w4.cell? ⟨w.heap.size + 1, 10, none⟩ = some (.int .i64 v10) := hI.vals 10 (by simp) (show 10 < 12 by decide)
 have e11 : w4.cell? ⟨w.heap.size + 1, 11, none⟩ = some (.int .i64 v11) := hI.vals 11 (by simp) (show 11 < 12 by decide)
 have hz4 : w4.heap.size = w.heap.size + 1 + 1 + 1 := hI.bl.size.trans HZ3.out
 have HE1 := Lib.hid (show CellsAt w4 w.heap.size zE.cells from fun i hi => by
  have hk := hI.bl.hb w.heap.size (by omega) (fun q hq => by obtain ⟨i, _, rfl⟩ := evPs_mem hq; show w.heap.size + 1 ≠ _; omega)
  exact ⟨(World.cell?_of_block (a := ⟨w.heap.size, i, none⟩) hk).trans (HKE1.out i hi).1, (hI.fz _).trans (HKE1.out i hi).2⟩)
 have HR4 := Lib.hid (show w4.cell? ⟨R, 0, none⟩ = some (.string s) ∧ w4.cell? ⟨R, 1, none⟩ = some (.int .i64 b) ∧ w4.frozen? ⟨R, 1, none⟩ = false from ⟨hI.r0, hI.r1, (hI.fz _).trans HFP.out.rz⟩)
 have HEV := Lib.hid (event_u ⟨v0, v1, v2, v3, v4, v5, v6, v7, v8, v9, v10, v11⟩ hwf w4 (HRD.out.up (below_grown9 HGR.out (Nat.le_of_lt hR)) hRg))
 rw [Ev.val_mk] at HEV
 have HG2 := Lib.hid (show evG s a = if evB ⟨v0, v1, v2, v3, v4, v5, v6, v7, v8, v9, v10, v11⟩ = true then some ((⟨v0, v1, v2, v3, v4, v5, v6, v7, v8, v9, v10, v11⟩ : Ev), b) else none from by rw [HG.out, hf]; rfl)
 have HZ4 := Lib.hid hz4
 have HKE4 := Lib.hid (fun W (bw : Below w4.heap.size w4 W) => (show EvBox W (w.heap.size + 1) ⟨v0, v1, v2, v3, v4, v5, v6, v7, v8, v9, v10, v11⟩ from ⟨(bw.cell (p := ⟨w.heap.size + 1, 0, none⟩) (by show w.heap.size + 1 < _; omega)).trans e0, (bw.cell (p := ⟨w.heap.size + 1, 1, none⟩) (by show w.heap.size + 1 < _; omega)).trans e1, (bw.cell (p := ⟨w.heap.size + 1, 2, none⟩) (by show w.heap.size + 1 < _; omega)).trans e2, (bw.cell (p := ⟨w.heap.size + 1, 3, none⟩) (by show w.heap.size + 1 < _; omega)).trans e3, (bw.cell (p := ⟨w.heap.size + 1, 4, none⟩) (by show w.heap.size + 1 < _; omega)).trans e4, (bw.cell (p := ⟨w.heap.size + 1, 5, none⟩) (by show w.heap.size + 1 < _; omega)).trans e5, (bw.cell (p := ⟨w.heap.size + 1, 6, none⟩) (by show w.heap.size + 1 < _; omega)).trans e6, (bw.cell (p := ⟨w.heap.size + 1, 7, none⟩) (by show w.heap.size + 1 < _; omega)).trans e7, (bw.cell (p := ⟨w.heap.size + 1, 8, none⟩) (by show w.heap.size + 1 < _; omega)).trans e8, (bw.cell (p := ⟨w.heap.size + 1, 9, none⟩) (by show w.heap.size + 1 < _; omega)).trans e9, (bw.cell (p := ⟨w.heap.size + 1, 10, none⟩) (by show w.heap.size + 1 < _; omega)).trans e10, (bw.cell (p := ⟨w.heap.size + 1, 11, none⟩) (by show w.heap.size + 1 < _; omega)).trans e11⟩))
 clear V1 V2 V3 hI hf hwf hz4 Z1 Z2
 go_wp2_with fail
 refine HEV.out.mono ?_
 rintro e w5 ⟨rfl, b5⟩
 have HB5 := Lib.hid b5
 obtain ⟨e0, e1, e2, e3, e4, e5, e6, e7, e8, e9, e10, e11⟩ := HKE4.out w5 b5
 have HGR5 := Lib.hid (show w.grownBy w5 (some R) from grown_then9 HGR.out b5)
 have HR5 := Lib.hid (show w5.cell? ⟨R, 0, none⟩ = some (.string s) ∧ w5.cell? ⟨R, 1, none⟩ = some (.int .i64 b) ∧ w5.frozen? ⟨R, 1, none⟩ = false from ⟨(b5.cell (p := ⟨R, 0, none⟩) (by show R < _; have := HZ4.out; omega)).trans HR4.out.1, (b5.cell (p := ⟨R, 1, none⟩) (by show R < _; have := HZ4.out; omega)).trans HR4.out.2.1, (b5.frozen (p := ⟨R, 1, none⟩) (by show R < _; have := HZ4.out; omega)).trans HR4.out.2.2⟩)
 have HE5 := Lib.hid (HE1.out.below b5)
 clear b5
 cases hev : evB ⟨v0, v1, v2, v3, v4, v5, v6, v7, v8, v9, v10, v11⟩ with
 | false =>
  have HN := Lib.hid (show evG s a = none from by rw [HG2.out, hev]; rfl)
  have HRQ := Lib.hid (fun W => require_no W)
  clear hev
  go_wp2_with fail
  refine (HRQ.out _).mono ?_
  rintro e z ⟨rfl, hz⟩
  rw [hz]
  exact ⟨rfl, HGR5.out, .inr ⟨HN.out, rfl⟩⟩
 | true =>
  have HN := Lib.hid (show evG s a = some ((⟨v0, v1, v2, v3, v4, v5, v6, v7, v8, v9, v10, v11⟩ : Ev), b) from by rw [HG2.out, hev]; rfl)
  have HRQ := Lib.hid (fun W => require_yes W)
  clear hev
  have HE6 := Lib.hid HE5.out
  obtain ⟨g0, g0'⟩ := HE5.out 0 (by decide)
  obtain ⟨g1, g1'⟩ := HE5.out 1 (by decide)
  obtain ⟨g2, g2'⟩ := HE5.out 2 (by decide)
  obtain ⟨g3, g3'⟩ := HE5.out 3 (by decide)
  obtain ⟨g4, g4'⟩ := HE5.out 4 (by decide)
  obtain ⟨g5, g5'⟩ := HE5.out 5 (by decide)
  obtain ⟨g6, g6'⟩ := HE5.out 6 (by decide)
  obtain ⟨g7, g7'⟩ := HE5.out 7 (by decide)
  obtain ⟨g8, g8'⟩ := HE5.out 8 (by decide)
  obtain ⟨g9, g9'⟩ := HE5.out 9 (by decide)
  obtain ⟨g10, g10'⟩ := HE5.out 10 (by decide)
  obtain ⟨g11, g11'⟩ := HE5.out 11 (by decide)
  have g0 := (show w5.cell? ⟨w.heap.size, 0, none⟩ = some (.int .i64 0) from g0)
  have g1 := (show w5.cell? ⟨w.heap.size, 1, none⟩ = some (.int .i64 0) from g1)
  have g2 := (show w5.cell? ⟨w.heap.size, 2, none⟩ = some (.int .i64 0) from g2)
  have g3 := (show w5.cell? ⟨w.heap.size, 3, none⟩ = some (.int .i64 0) from g3)
  have g4 := (show w5.cell? ⟨w.heap.size, 4, none⟩ = some (.int .i64 0) from g4)
  have g5 := (show w5.cell? ⟨w.heap.size, 5, none⟩ = some (.int .i64 0) from g5)
  have g6 := (show w5.cell? ⟨w.heap.size, 6, none⟩ = some (.int .i64 0) from g6)
  have g7 := (show w5.cell? ⟨w.heap.size, 7, none⟩ = some (.int .i64 0) from g7)
  have g8 := (show w5.cell? ⟨w.heap.size, 8, none⟩ = some (.int .i64 0) from g8)
  have g9 := (show w5.cell? ⟨w.heap.size, 9, none⟩ = some (.int .i64 0) from g9)
  have g10 := (show w5.cell? ⟨w.heap.size, 10, none⟩ = some (.int .i64 0) from g10)
  have g11 := (show w5.cell? ⟨w.heap.size, 11, none⟩ = some (.int .i64 0) from g11)
  obtain ⟨w6, hw6, K6⟩ : ∃ w6, ((((((((((((w5.setCell ⟨w.heap.size, 0, none⟩ (.int .i64 v0)).setCell ⟨w.heap.size, 1, none⟩ (.int .i64 v1)).setCell ⟨w.heap.size, 2, none⟩ (.int .i64 v2)).setCell ⟨w.heap.size, 3, none⟩ (.int .i64 v3)).setCell ⟨w.heap.size, 4, none⟩ (.int .i64 v4)).setCell ⟨w.heap.size, 5, none⟩ (.int .i64 v5)).setCell ⟨w.heap.size, 6, none⟩ (.int .i64 v6)).setCell ⟨w.heap.size, 7, none⟩ (.int .i64 v7)).setCell ⟨w.heap.size, 8, none⟩ (.int .i64 v8)).setCell ⟨w.heap.size, 9, none⟩ (.int .i64 v9)).setCell ⟨w.heap.size, 10, none⟩ (.int .i64 v10)).setCell ⟨w.heap.size, 11, none⟩ (.int .i64 v11)) = w6 ∧ CellsAt w6 w.heap.size (Ev.cells ⟨v0, v1, v2, v3, v4, v5, v6, v7, v8, v9, v10, v11⟩) := ⟨_, rfl, ((((((((((((HE5.out.put 0 _).put 1 _).put 2 _).put 3 _).put 4 _).put 5 _).put 6 _).put 7 _).put 8 _).put 9 _).put 10 _).put 11 _)⟩
  have HGR6 := Lib.hid (show w.grownBy w6 (some R) from by rw [← hw6]; exact grown_sets9 HGR5.out)
  have HR6 := Lib.hid (show w6.cell? ⟨R, 0, none⟩ = some (.string s) ∧ w6.cell? ⟨R, 1, none⟩ = some (.int .i64 b) ∧ w6.frozen? ⟨R, 1, none⟩ = false from by rw [← hw6]; exact far_sets9 (by omega) HR5.out)
  obtain ⟨f0, f1, f2, f3, f4, f5, f6, f7, f8, f9, f10, f11⟩ := CellsAt.ev K6
  clear HE6 K6
  go_wp2_with fail
  refine (HRQ.out _).mono ?_
  rintro e z ⟨rfl, hz⟩
  rw [hz]
  clear hz
  go_wp2_with fail
  exact bodyPost_ret (v := .agg #[.int .i64 v0, .int .i64 v1, .int .i64 v2, .int .i64 v3, .int .i64 v4, .int .i64 v5, .int .i64 v6, .int .i64 v7, .int .i64 v8, .int .i64 v9, .int .i64 v10, .int .i64 v11]) (by simp [results, Tryz.results54, go_sem, f0, f1, f2, f3, f4, f5, f6, f7, f8, f9, f10, f11]) rfl ⟨HGR6.out, .inl ⟨_, b, HN.out, by rw [Ev.val_mk], HR6.out⟩⟩
end Go.Proofs.YtnpfhcnjkekhbaaGreatDoor

namespace Go.Proofs.YtnpfhcnjkekhbaaGreatDoor
open Go Go.Proofs Go.RowKit Go.Lib Go.Sort
theorem catchE_pan (p : Addr) (x : Int) (older : List PanicEntry) (w : World) (hc : w.cell? p = some (.int .i64 x)) (hz : w.frozen? p = false) :
 CallsD Tryz.prog 75 #[.pointer (some p)] (.panicking ({ v := .iface 30 (.int .i64 90), recovered := false } :: older)) w fun e u' w' =>
  e = .returned (.tuple #[]) ∧ u' = .panicking ({ v := .iface 30 (.int .i64 90), recovered := true } :: older) ∧ w' = w.setCell p (.int .i64 90) := by
 refine callsD_of_wpS Tryz.func75 rfl fun c₀ cs hu => ?_
 apply wpS_seq
 apply wpS_region
 simp [wpOpsS, go_sem, recoverD, hu, Tryz.ntmps75, Exit.thenS]
 refine wpS_cond (t := true) (by simp [Act.eval, Array.replicate]) ?_
 simp only [if_true]
 apply wpS_region
 simp [wpOpsS, go_sem, hc, hz, bodyPostS, results, Tryz.results75]
theorem catchE_idle (p : Addr) (w : World) :
 CallsD Tryz.prog 75 #[.pointer (some p)] .returning w fun e u' w' => e = .returned (.tuple #[]) ∧ u' = .returning ∧ w' = w := by
 refine callsD_of_wpS Tryz.func75 rfl fun c₀ cs hu => ?_
 apply wpS_seq
 apply wpS_region
 simp [wpOpsS, go_sem, recoverD, hu, Tryz.ntmps75, Exit.thenS]
 refine wpS_cond (t := false) (by simp [Act.eval, Array.replicate]) ?_
 simp only [Bool.false_eq_true, if_false]
 refine wpS_of_wp (wp_skip ?_)
 cases c₀
 simp_all [bodyPostS, results, Tryz.results75]
theorem belowS9 {w W : World} {v0 v1 v2 v3 v4 v5 v6 v7 v8 v9 v10 v11 : Value} (h : Below w.heap.size w W) : Below w.heap.size w ((((((((((((W.setCell ⟨w.heap.size, 0, none⟩ v0).setCell ⟨w.heap.size, 1, none⟩ v1).setCell ⟨w.heap.size, 2, none⟩ v2).setCell ⟨w.heap.size, 3, none⟩ v3).setCell ⟨w.heap.size, 4, none⟩ v4).setCell ⟨w.heap.size, 5, none⟩ v5).setCell ⟨w.heap.size, 6, none⟩ v6).setCell ⟨w.heap.size, 7, none⟩ v7).setCell ⟨w.heap.size, 8, none⟩ v8).setCell ⟨w.heap.size, 9, none⟩ v9).setCell ⟨w.heap.size, 10, none⟩ v10).setCell ⟨w.heap.size, 11, none⟩ v11) := ((((((((((((h.setCell (p := ⟨w.heap.size, 0, none⟩) (Nat.le_refl _) _).setCell (p := ⟨w.heap.size, 1, none⟩) (Nat.le_refl _) _).setCell (p := ⟨w.heap.size, 2, none⟩) (Nat.le_refl _) _).setCell (p := ⟨w.heap.size, 3, none⟩) (Nat.le_refl _) _).setCell (p := ⟨w.heap.size, 4, none⟩) (Nat.le_refl _) _).setCell (p := ⟨w.heap.size, 5, none⟩) (Nat.le_refl _) _).setCell (p := ⟨w.heap.size, 6, none⟩) (Nat.le_refl _) _).setCell (p := ⟨w.heap.size, 7, none⟩) (Nat.le_refl _) _).setCell (p := ⟨w.heap.size, 8, none⟩) (Nat.le_refl _) _).setCell (p := ⟨w.heap.size, 9, none⟩) (Nat.le_refl _) _).setCell (p := ⟨w.heap.size, 10, none⟩) (Nat.le_refl _) _).setCell (p := ⟨w.heap.size, 11, none⟩) (Nat.le_refl _) _)
theorem farB9 {W : World} {A B : Nat} {v0 v1 v2 v3 v4 v5 v6 v7 v8 v9 v10 v11 : Value} {vs : List Value} (hne : A ≠ B) (h : CellsAt W B vs) : CellsAt ((((((((((((W.setCell ⟨A, 0, none⟩ v0).setCell ⟨A, 1, none⟩ v1).setCell ⟨A, 2, none⟩ v2).setCell ⟨A, 3, none⟩ v3).setCell ⟨A, 4, none⟩ v4).setCell ⟨A, 5, none⟩ v5).setCell ⟨A, 6, none⟩ v6).setCell ⟨A, 7, none⟩ v7).setCell ⟨A, 8, none⟩ v8).setCell ⟨A, 9, none⟩ v9).setCell ⟨A, 10, none⟩ v10).setCell ⟨A, 11, none⟩ v11) B vs := ((((((((((((h.far hne).far hne).far hne).far hne).far hne).far hne).far hne).far hne).far hne).far hne).far hne).far hne)
theorem farC9 {W : World} {A B j : Nat} {v0 v1 v2 v3 v4 v5 v6 v7 v8 v9 v10 v11 u : Value} (hne : A ≠ B) (h : W.cell? ⟨B, j, none⟩ = some u) : ((((((((((((W.setCell ⟨A, 0, none⟩ v0).setCell ⟨A, 1, none⟩ v1).setCell ⟨A, 2, none⟩ v2).setCell ⟨A, 3, none⟩ v3).setCell ⟨A, 4, none⟩ v4).setCell ⟨A, 5, none⟩ v5).setCell ⟨A, 6, none⟩ v6).setCell ⟨A, 7, none⟩ v7).setCell ⟨A, 8, none⟩ v8).setCell ⟨A, 9, none⟩ v9).setCell ⟨A, 10, none⟩ v10).setCell ⟨A, 11, none⟩ v11).cell? ⟨B, j, none⟩ = some u := by
 have far : ∀ (X : World) (i : Nat) (v : Value), (X.setCell ⟨A, i, none⟩ v).cell? ⟨B, j, none⟩ = X.cell? ⟨B, j, none⟩ := fun X i v => World.cell?_setCell_other _ _ _ _ (fun e => hne (by injection e))
 simp only [far]
 exact h
theorem frozen_of_block9 {w w' : World} {b i : Nat} (h : w'.heap[b]? = w.heap[b]?) : w'.frozen? ⟨b, i, none⟩ = w.frozen? ⟨b, i, none⟩ := by
 unfold World.frozen?
 dsimp only
 rw [h]
def decEv (s : ByteArray) (a : Int) : Ev := match evG s a with
 | some (x, _) => x
 | none => zE
def decEo (s : ByteArray) (a : Int) : Int := match evG s a with
 | some (_, b) => b
 | none => 0
def decEe (s : ByteArray) (a : Int) : Int := match evG s a with
 | some _ => 0
 | none => 90
theorem decodeE_u (s : ByteArray) (hs : s.size ≤ maxLen) (a : Int) (w : World) (hRd : Rdy w) :
 Calls Tryz.prog 53 #[.string s, .int .i64 a, .func (.func 54) #[] #[]] w fun e w' => e = .returned (.tuple #[(decEv s a).val, .int .i64 (decEo s a), .int .i64 (decEe s a)]) ∧ Below w.heap.size w w' := by
 have hmf : ∀ (fn : Fn) (first cap : Array Value) (w : World), (Instr.makeFunc fn first cap).run Tryz.prog w = .ok (.func fn first cap) w := fun _ _ _ _ => rfl
 obtain ⟨w1, V1, Z1, K1, B1⟩ := lay8 w zE.cells 23
 have V1 := (show w.alloc (.cells #[.int .i64 0, .int .i64 0, .int .i64 0, .int .i64 0, .int .i64 0, .int .i64 0, .int .i64 0, .int .i64 0, .int .i64 0, .int .i64 0, .int .i64 0, .int .i64 0] 23) = w1 from V1)
 obtain ⟨w2, V2, Z2, K2, B2⟩ := lay8 w1 [.int .i64 0] 30
 have V2 := (show w1.alloc (.cells #[.int .i64 0] 30) = w2 from V2)
 obtain ⟨w3, V3, Z3, K3, B3⟩ := lay8 w2 [.string s, .int .i64 a] 108
 have V3 := (show w2.alloc (.cells #[.string s, .int .i64 a] 108) = w3 from V3)
 rw [Z1] at Z2 K2 B2
 rw [Z2] at Z3 K3 B3
 have KA := (K1.up B2 (by omega)).up B3 (by omega)
 have KB := K2.up B3 (by omega)
 have hB3 : Below w.heap.size w w3 := B1.trans ((B2.mono (by omega)).trans (B3.mono (by omega)))
 have HEV := Lib.hid (event9_u s hs (w.heap.size + 1 + 1) a w3 (hRd.below hB3) (by have := hRd.lt; omega) (by omega) (K3 0 (by simp)).1 (K3 1 (by simp)).1 (K3 1 (by simp)).2)
 have HB3 := Lib.hid hB3
 have HKA := Lib.hid KA
 have HKB := Lib.hid KB
 have HZ3 := Lib.hid (show w3.heap.size = w.heap.size + 1 + 1 + 1 from Z3)
 obtain ⟨DV, hDV⟩ : ∃ DV, decEv s a = DV := ⟨_, rfl⟩
 obtain ⟨DO, hDO⟩ : ∃ DO, decEo s a = DO := ⟨_, rfl⟩
 obtain ⟨DE, hDE⟩ : ∃ DE, decEe s a = DE := ⟨_, rfl⟩
 rw [hDV, hDO, hDE]
 have HD := Lib.hid (show decEv s a = DV ∧ decEo s a = DO ∧ decEe s a = DE from ⟨hDV, hDO, hDE⟩)
 clear K1 K2 K3 B1 B2 B3 KA KB hB3 hRd Z3 hDV hDO hDE
 go_enter_defers Tryz.func53, Tryz.ntmps53
 go_wp2_with fail
 refine HEV.out.mono ?_
 rintro e w4 ⟨hg, (⟨x, b, hx, rfl, c0, c1, cz⟩ | ⟨hn, rfl⟩)⟩
 rotate_left
 · have HN := Lib.hid (show DV = zE ∧ DO = 0 ∧ DE = 90 from by
    obtain ⟨h1, h2, h3⟩ := HD.out
    rw [← h1, ← h2, ← h3]
    unfold decEv decEo decEe
    rw [hn]
    exact ⟨rfl, rfl, rfl⟩)
   have HW := Lib.hid (show Below w.heap.size w w4 from HB3.out.trans (below_grown9 hg (by rw [HZ3.out]; omega) |>.mono (by omega)))
   have kA : ∀ i (h : i < zE.cells.length), w4.cell? ⟨w.heap.size, i, none⟩ = some zE.cells[i] := fun i h => (World.cell?_of_block (a := ⟨w.heap.size, i, none⟩) (hg.block w.heap.size (by rw [HZ3.out]; omega) (fun e => by injection e; omega))).trans (HKA.out i h).1
   have HKA4 := Lib.hid kA
   have hbl : w4.heap[w.heap.size + 1]? = w3.heap[w.heap.size + 1]? := hg.block (w.heap.size + 1) (by rw [HZ3.out]; omega) (fun e => by injection e; omega)
   have HKB4 := Lib.hid (show w4.cell? ⟨w.heap.size + 1, 0, none⟩ = some (.int .i64 0) ∧ w4.frozen? ⟨w.heap.size + 1, 0, none⟩ = false from ⟨(World.cell?_of_block (a := ⟨w.heap.size + 1, 0, none⟩) hbl).trans (HKB.out 0 (by simp)).1, (frozen_of_block9 hbl).trans (HKB.out 0 (by simp)).2⟩)
   clear hg hn V1 V2 V3 kA hbl
   refine leaves_cons (f := 75) (args := #[.pointer (some ⟨w.heap.size + 1, 0, none⟩)]) (by simp) (by simp [go_sem]) ?_
   refine (catchE_pan ⟨w.heap.size + 1, 0, none⟩ 0 [] _ HKB4.out.1 HKB4.out.2).mono ?_
   rintro e u' w'' ⟨rfl, rfl, rfl⟩
   have far : ∀ i, (w4.setCell ⟨w.heap.size + 1, 0, none⟩ (.int .i64 90)).cell? ⟨w.heap.size, i, none⟩ = w4.cell? ⟨w.heap.size, i, none⟩ := fun i => World.cell?_setCell_other _ _ _ _ (fun e => by injection e with e1; omega)
   have h8 : (w4.setCell ⟨w.heap.size + 1, 0, none⟩ (.int .i64 90)).cell? ⟨w.heap.size + 1, 0, none⟩ = some (.int .i64 90) := World.cell?_setCell_same _ _ _ HKB4.out.1
   have k0 := (show (w4.setCell ⟨w.heap.size + 1, 0, none⟩ (.int .i64 90)).cell? ⟨w.heap.size, 0, none⟩ = some (.int .i64 0) from (far 0).trans (HKA4.out 0 (by decide)))
   have k1 := (show (w4.setCell ⟨w.heap.size + 1, 0, none⟩ (.int .i64 90)).cell? ⟨w.heap.size, 1, none⟩ = some (.int .i64 0) from (far 1).trans (HKA4.out 1 (by decide)))
   have k2 := (show (w4.setCell ⟨w.heap.size + 1, 0, none⟩ (.int .i64 90)).cell? ⟨w.heap.size, 2, none⟩ = some (.int .i64 0) from (far 2).trans (HKA4.out 2 (by decide)))
   have k3 := (show (w4.setCell ⟨w.heap.size + 1, 0, none⟩ (.int .i64 90)).cell? ⟨w.heap.size, 3, none⟩ = some (.int .i64 0) from (far 3).trans (HKA4.out 3 (by decide)))
   have k4 := (show (w4.setCell ⟨w.heap.size + 1, 0, none⟩ (.int .i64 90)).cell? ⟨w.heap.size, 4, none⟩ = some (.int .i64 0) from (far 4).trans (HKA4.out 4 (by decide)))
   have k5 := (show (w4.setCell ⟨w.heap.size + 1, 0, none⟩ (.int .i64 90)).cell? ⟨w.heap.size, 5, none⟩ = some (.int .i64 0) from (far 5).trans (HKA4.out 5 (by decide)))
   have k6 := (show (w4.setCell ⟨w.heap.size + 1, 0, none⟩ (.int .i64 90)).cell? ⟨w.heap.size, 6, none⟩ = some (.int .i64 0) from (far 6).trans (HKA4.out 6 (by decide)))
   have k7 := (show (w4.setCell ⟨w.heap.size + 1, 0, none⟩ (.int .i64 90)).cell? ⟨w.heap.size, 7, none⟩ = some (.int .i64 0) from (far 7).trans (HKA4.out 7 (by decide)))
   have k8 := (show (w4.setCell ⟨w.heap.size + 1, 0, none⟩ (.int .i64 90)).cell? ⟨w.heap.size, 8, none⟩ = some (.int .i64 0) from (far 8).trans (HKA4.out 8 (by decide)))
   have k9 := (show (w4.setCell ⟨w.heap.size + 1, 0, none⟩ (.int .i64 90)).cell? ⟨w.heap.size, 9, none⟩ = some (.int .i64 0) from (far 9).trans (HKA4.out 9 (by decide)))
   have k10 := (show (w4.setCell ⟨w.heap.size + 1, 0, none⟩ (.int .i64 90)).cell? ⟨w.heap.size, 10, none⟩ = some (.int .i64 0) from (far 10).trans (HKA4.out 10 (by decide)))
   have k11 := (show (w4.setCell ⟨w.heap.size + 1, 0, none⟩ (.int .i64 90)).cell? ⟨w.heap.size, 11, none⟩ = some (.int .i64 0) from (far 11).trans (HKA4.out 11 (by decide)))
   obtain ⟨hn1, hn2, hn3⟩ := HN.out
   have HBE := Lib.hid (HW.out.setCell (p := ⟨w.heap.size + 1, 0, none⟩) (by show w.heap.size ≤ w.heap.size + 1; omega) (.int .i64 90))
   generalize (w4.setCell ⟨w.heap.size + 1, 0, none⟩ (.int .i64 90)) = w9 at *
   rw [hn1, hn2, hn3]
   simp [Leaves, settle, results, Tryz.results53, go_sem, k0, k1, k2, k3, k4, k5, k6, k7, k8, k9, k10, k11, h8, HBE.out]
   try rfl
 have HN := Lib.hid (show DV = x ∧ DO = b ∧ DE = 0 from by
  obtain ⟨h1, h2, h3⟩ := HD.out
  rw [← h1, ← h2, ← h3]
  unfold decEv decEo decEe
  rw [hx]
  exact ⟨rfl, rfl, rfl⟩)
 have HW := Lib.hid (show Below w.heap.size w w4 from HB3.out.trans (below_grown9 hg (by rw [HZ3.out]; omega) |>.mono (by omega)))
 have hblA : w4.heap[w.heap.size]? = w3.heap[w.heap.size]? := hg.block w.heap.size (by rw [HZ3.out]; omega) (fun e => by injection e; omega)
 have hblB : w4.heap[w.heap.size + 1]? = w3.heap[w.heap.size + 1]? := hg.block (w.heap.size + 1) (by rw [HZ3.out]; omega) (fun e => by injection e; omega)
 have HKA4 := Lib.hid (show CellsAt w4 w.heap.size zE.cells from fun i h => ⟨(World.cell?_of_block (a := ⟨w.heap.size, i, none⟩) hblA).trans (HKA.out i h).1, (frozen_of_block9 hblA).trans (HKA.out i h).2⟩)
 have HKB4 := Lib.hid (show CellsAt w4 (w.heap.size + 1) [.int .i64 0] from fun i h => ⟨(World.cell?_of_block (a := ⟨w.heap.size + 1, i, none⟩) hblB).trans (HKB.out i h).1, (frozen_of_block9 hblB).trans (HKB.out i h).2⟩)
 have HC1 := Lib.hid c1
 obtain ⟨g0, g0'⟩ := HKA4.out 0 (by decide)
 have g0 := (show w4.cell? ⟨w.heap.size, 0, none⟩ = some (.int .i64 0) from g0)
 obtain ⟨g1, g1'⟩ := HKA4.out 1 (by decide)
 have g1 := (show w4.cell? ⟨w.heap.size, 1, none⟩ = some (.int .i64 0) from g1)
 obtain ⟨g2, g2'⟩ := HKA4.out 2 (by decide)
 have g2 := (show w4.cell? ⟨w.heap.size, 2, none⟩ = some (.int .i64 0) from g2)
 obtain ⟨g3, g3'⟩ := HKA4.out 3 (by decide)
 have g3 := (show w4.cell? ⟨w.heap.size, 3, none⟩ = some (.int .i64 0) from g3)
 obtain ⟨g4, g4'⟩ := HKA4.out 4 (by decide)
 have g4 := (show w4.cell? ⟨w.heap.size, 4, none⟩ = some (.int .i64 0) from g4)
 obtain ⟨g5, g5'⟩ := HKA4.out 5 (by decide)
 have g5 := (show w4.cell? ⟨w.heap.size, 5, none⟩ = some (.int .i64 0) from g5)
 obtain ⟨g6, g6'⟩ := HKA4.out 6 (by decide)
 have g6 := (show w4.cell? ⟨w.heap.size, 6, none⟩ = some (.int .i64 0) from g6)
 obtain ⟨g7, g7'⟩ := HKA4.out 7 (by decide)
 have g7 := (show w4.cell? ⟨w.heap.size, 7, none⟩ = some (.int .i64 0) from g7)
 obtain ⟨g8, g8'⟩ := HKA4.out 8 (by decide)
 have g8 := (show w4.cell? ⟨w.heap.size, 8, none⟩ = some (.int .i64 0) from g8)
 obtain ⟨g9, g9'⟩ := HKA4.out 9 (by decide)
 have g9 := (show w4.cell? ⟨w.heap.size, 9, none⟩ = some (.int .i64 0) from g9)
 obtain ⟨g10, g10'⟩ := HKA4.out 10 (by decide)
 have g10 := (show w4.cell? ⟨w.heap.size, 10, none⟩ = some (.int .i64 0) from g10)
 obtain ⟨g11, g11'⟩ := HKA4.out 11 (by decide)
 have g11 := (show w4.cell? ⟨w.heap.size, 11, none⟩ = some (.int .i64 0) from g11)
 obtain ⟨w5, hw5, K5, B5, D5⟩ : ∃ w5, ((((((((((((w4.setCell ⟨w.heap.size, 0, none⟩ (.int .i64 x.ag)).setCell ⟨w.heap.size, 1, none⟩ (.int .i64 x.sq)).setCell ⟨w.heap.size, 2, none⟩ (.int .i64 x.tm)).setCell ⟨w.heap.size, 3, none⟩ (.int .i64 x.kd)).setCell ⟨w.heap.size, 4, none⟩ (.int .i64 x.tr)).setCell ⟨w.heap.size, 5, none⟩ (.int .i64 x.sp)).setCell ⟨w.heap.size, 6, none⟩ (.int .i64 x.lk)).setCell ⟨w.heap.size, 7, none⟩ (.int .i64 x.gn)).setCell ⟨w.heap.size, 8, none⟩ (.int .i64 x.op)).setCell ⟨w.heap.size, 9, none⟩ (.int .i64 x.vr)).setCell ⟨w.heap.size, 10, none⟩ (.int .i64 x.pe)).setCell ⟨w.heap.size, 11, none⟩ (.int .i64 x.bt)) = w5 ∧ CellsAt w5 w.heap.size x.cells ∧ CellsAt w5 (w.heap.size + 1) [.int .i64 0] ∧ w5.cell? ⟨w.heap.size + 1 + 1, 1, none⟩ = some (.int .i64 b) := ⟨_, rfl, ((((((((((((HKA4.out.put 0 _).put 1 _).put 2 _).put 3 _).put 4 _).put 5 _).put 6 _).put 7 _).put 8 _).put 9 _).put 10 _).put 11 _), farB9 (by omega) HKB4.out, farC9 (by omega) HC1.out⟩
 have HW5 := Lib.hid (show Below w.heap.size w w5 from by rw [← hw5]; exact belowS9 HW.out)
 obtain ⟨w6, hw6, K6, B6, D6⟩ : ∃ w6, (((((((((((({ w5 with drawn := w5.drawn + 1 }.setCell ⟨w.heap.size, 0, none⟩ (.int .i64 x.ag)).setCell ⟨w.heap.size, 1, none⟩ (.int .i64 x.sq)).setCell ⟨w.heap.size, 2, none⟩ (.int .i64 x.tm)).setCell ⟨w.heap.size, 3, none⟩ (.int .i64 x.kd)).setCell ⟨w.heap.size, 4, none⟩ (.int .i64 x.tr)).setCell ⟨w.heap.size, 5, none⟩ (.int .i64 x.sp)).setCell ⟨w.heap.size, 6, none⟩ (.int .i64 x.lk)).setCell ⟨w.heap.size, 7, none⟩ (.int .i64 x.gn)).setCell ⟨w.heap.size, 8, none⟩ (.int .i64 x.op)).setCell ⟨w.heap.size, 9, none⟩ (.int .i64 x.vr)).setCell ⟨w.heap.size, 10, none⟩ (.int .i64 x.pe)).setCell ⟨w.heap.size, 11, none⟩ (.int .i64 x.bt)) = w6 ∧ CellsAt w6 w.heap.size x.cells ∧ CellsAt w6 (w.heap.size + 1) [.int .i64 0] ∧ w6.cell? ⟨w.heap.size + 1 + 1, 1, none⟩ = some (.int .i64 b) := ⟨_, rfl, (((((((((((((show CellsAt { w5 with drawn := w5.drawn + 1 } w.heap.size x.cells from K5).put 0 _).put 1 _).put 2 _).put 3 _).put 4 _).put 5 _).put 6 _).put 7 _).put 8 _).put 9 _).put 10 _).put 11 _), farB9 (by omega) B5, farC9 (by omega) D5⟩
 have HW6 := Lib.hid (show Below w.heap.size w w6 from by rw [← hw6]; exact belowS9 (show Below w.heap.size w { w5 with drawn := w5.drawn + 1 } from ⟨HW5.out.os, HW5.out.tape, HW5.out.output, HW5.out.size, HW5.out.block⟩))
 obtain ⟨w7, hw7⟩ : ∃ w7, { w5 with drawn := w5.drawn + 1 } = w7 := ⟨_, rfl⟩
 rw [hw7] at hw6
 have K7 := (show CellsAt w7 w.heap.size x.cells from by rw [← hw7]; exact K5)
 have D7 := (show w7.cell? ⟨w.heap.size + 1 + 1, 1, none⟩ = some (.int .i64 b) from by rw [← hw7]; exact D5)
 have HY := Lib.hid (show ∀ A, Two9 w7 w6 A → EvBox A w.heap.size x ∧ A.cell? ⟨w.heap.size + 1 + 1, 1, none⟩ = some (.int .i64 b) from fun A hA => by
  rcases hA with rfl | rfl
  · exact ⟨CellsAt.ev K7, D7⟩
  · exact ⟨CellsAt.ev K6, D6⟩)
 have HK6 := Lib.hid K6
 have HB6 := Lib.hid B6
 have HK7 := Lib.hid K7
 clear hg hx V1 V2 V3 c0 c1 cz K5 K6 K7 B5 B6 D5 D6 D7 hblA hblB
 rw [Ev.val_mk]
 go_upto_region 4 with fail
 clear hw5 g0 g0' g1 g1' g2 g2' g3 g3' g4 g4' g5 g5' g6 g6' g7 g7' g8 g8' g9 g9' g10 g10' g11 g11'
 refine wp_region_noPanic ?_
 refine wp_region_K (C := Two9 w7 w6) [7] 7 #[false, false, false, false, false, false, false, false] (by kernel_rfl) (by kernel_rfl) (by kernel_rfl) (.inl hw7) ?_
 rw [hw7]
 refine wpAnyK_ex (i := 0) rfl (by kernel_rfl) (listed' := #[true, false, false, false, false, false, false, false]) rfl (fun _ _ _ _ _ h => h) (.inl rfl) ?_
 apply Exists.intro
 refine ⟨⟨by kernel_rfl, fun wy hw => ?_⟩, ?_⟩
 · (obtain ⟨⟨y0, y1, y2, y3, y4, y5, y6, y7, y8, y9, y10, y11⟩, z1⟩ := HY.out wy hw; go_simp; try (first | (with_reducible rfl) | (with_reducible exact ⟨rfl, rfl⟩)))
 try simp only [Act.put, List.getElem_toArray, List.getElem_cons_zero, List.setIfInBounds_toArray, List.set_cons_succ, List.set_cons_zero]
 refine wpAnyK_ex (i := 1) rfl (by kernel_rfl) (listed' := #[true, true, false, false, false, false, false, false]) rfl (fun _ _ _ _ _ h => h) (.inl rfl) ?_
 apply Exists.intro
 refine ⟨⟨by kernel_rfl, fun wy hw => ?_⟩, ?_⟩
 · (obtain ⟨⟨y0, y1, y2, y3, y4, y5, y6, y7, y8, y9, y10, y11⟩, z1⟩ := HY.out wy hw; go_simp; try (first | (with_reducible rfl) | (with_reducible exact ⟨rfl, rfl⟩)))
 try simp only [Act.put, List.getElem_toArray, List.getElem_cons_succ, List.getElem_cons_zero, List.setIfInBounds_toArray, List.set_cons_succ, List.set_cons_zero]
 refine wpAnyK_ex (i := 2) rfl (by kernel_rfl) (listed' := #[true, true, true, false, false, false, false, false]) rfl (fun _ _ _ _ _ h => h) (.inl rfl) ?_
 apply Exists.intro
 refine ⟨⟨by kernel_rfl, fun wy hw => ?_⟩, ?_⟩
 · (obtain ⟨⟨y0, y1, y2, y3, y4, y5, y6, y7, y8, y9, y10, y11⟩, z1⟩ := HY.out wy hw; go_simp; try (first | (with_reducible rfl) | (with_reducible exact ⟨rfl, rfl⟩)))
 try simp only [Act.put, List.getElem_toArray, List.getElem_cons_succ, List.getElem_cons_zero, List.setIfInBounds_toArray, List.set_cons_succ, List.set_cons_zero]
 refine wpAnyK_ex (i := 3) rfl (by kernel_rfl) (listed' := #[true, true, true, true, false, false, false, false]) rfl (fun _ _ _ _ _ h => h) (.inl rfl) ?_
 apply Exists.intro
 refine ⟨⟨by kernel_rfl, fun wy hw => ?_⟩, ?_⟩
 · (obtain ⟨⟨y0, y1, y2, y3, y4, y5, y6, y7, y8, y9, y10, y11⟩, z1⟩ := HY.out wy hw; go_simp; try (first | (with_reducible rfl) | (with_reducible exact ⟨rfl, rfl⟩)))
 try simp only [Act.put, List.getElem_toArray, List.getElem_cons_succ, List.getElem_cons_zero, List.setIfInBounds_toArray, List.set_cons_succ, List.set_cons_zero]
 refine wpAnyK_ex (i := 4) rfl (by kernel_rfl) (listed' := #[true, true, true, true, true, false, false, false]) rfl (fun _ _ _ _ _ h => h) (.inl rfl) ?_
 apply Exists.intro
 refine ⟨⟨by kernel_rfl, fun wy hw => ?_⟩, ?_⟩
 · (obtain ⟨⟨y0, y1, y2, y3, y4, y5, y6, y7, y8, y9, y10, y11⟩, z1⟩ := HY.out wy hw; go_simp; try (first | (with_reducible rfl) | (with_reducible exact ⟨rfl, rfl⟩)))
 try simp only [Act.put, List.getElem_toArray, List.getElem_cons_succ, List.getElem_cons_zero, List.setIfInBounds_toArray, List.set_cons_succ, List.set_cons_zero]
 obtain ⟨g0, g0'⟩ := HK7.out 0 (by simp [Ev.cells])
 have g0 := (show w7.cell? ⟨w.heap.size, 0, none⟩ = some (.int .i64 x.ag) from g0)
 obtain ⟨g1, g1'⟩ := HK7.out 1 (by simp [Ev.cells])
 have g1 := (show w7.cell? ⟨w.heap.size, 1, none⟩ = some (.int .i64 x.sq) from g1)
 obtain ⟨g2, g2'⟩ := HK7.out 2 (by simp [Ev.cells])
 have g2 := (show w7.cell? ⟨w.heap.size, 2, none⟩ = some (.int .i64 x.tm) from g2)
 obtain ⟨g3, g3'⟩ := HK7.out 3 (by simp [Ev.cells])
 have g3 := (show w7.cell? ⟨w.heap.size, 3, none⟩ = some (.int .i64 x.kd) from g3)
 obtain ⟨g4, g4'⟩ := HK7.out 4 (by simp [Ev.cells])
 have g4 := (show w7.cell? ⟨w.heap.size, 4, none⟩ = some (.int .i64 x.tr) from g4)
 obtain ⟨g5, g5'⟩ := HK7.out 5 (by simp [Ev.cells])
 have g5 := (show w7.cell? ⟨w.heap.size, 5, none⟩ = some (.int .i64 x.sp) from g5)
 obtain ⟨g6, g6'⟩ := HK7.out 6 (by simp [Ev.cells])
 have g6 := (show w7.cell? ⟨w.heap.size, 6, none⟩ = some (.int .i64 x.lk) from g6)
 obtain ⟨g7, g7'⟩ := HK7.out 7 (by simp [Ev.cells])
 have g7 := (show w7.cell? ⟨w.heap.size, 7, none⟩ = some (.int .i64 x.gn) from g7)
 obtain ⟨g8, g8'⟩ := HK7.out 8 (by simp [Ev.cells])
 have g8 := (show w7.cell? ⟨w.heap.size, 8, none⟩ = some (.int .i64 x.op) from g8)
 obtain ⟨g9, g9'⟩ := HK7.out 9 (by simp [Ev.cells])
 have g9 := (show w7.cell? ⟨w.heap.size, 9, none⟩ = some (.int .i64 x.vr) from g9)
 obtain ⟨g10, g10'⟩ := HK7.out 10 (by simp [Ev.cells])
 have g10 := (show w7.cell? ⟨w.heap.size, 10, none⟩ = some (.int .i64 x.pe) from g10)
 obtain ⟨g11, g11'⟩ := HK7.out 11 (by simp [Ev.cells])
 have g11 := (show w7.cell? ⟨w.heap.size, 11, none⟩ = some (.int .i64 x.bt) from g11)
 refine wpAnyK_fork1 5 (by kernel_rfl) ?_
 refine wpOpK_step rfl (by kernel_rfl) (listed' := #[true, true, true, true, true, true, false, false]) rfl (by kernel_rfl) (fun K hK => ?_)
 go_simp
 refine hK _ _ (.inr rfl) ?_
 clear hK K g0 g0' g1 g1' g2 g2' g3 g3' g4 g4' g5 g5' g6 g6' g7 g7' g8 g8' g9 g9' g10 g10' g11 g11'
 try simp only [Act.put, List.getElem_toArray, List.getElem_cons_succ, List.getElem_cons_zero, List.setIfInBounds_toArray, List.set_cons_succ, List.set_cons_zero]
 refine wpAnyK_ex (i := 6) rfl (by kernel_rfl) (listed' := #[true, true, true, true, true, true, true, false]) rfl (fun _ _ _ _ _ h => h) (.inr rfl) ?_
 apply Exists.intro
 refine ⟨⟨by kernel_rfl, fun wy hw => ?_⟩, ?_⟩
 · (obtain ⟨⟨y0, y1, y2, y3, y4, y5, y6, y7, y8, y9, y10, y11⟩, z1⟩ := HY.out wy hw; go_simp; try (first | (with_reducible rfl) | (with_reducible exact ⟨rfl, rfl⟩)))
 try simp only [Act.put, List.getElem_toArray, List.getElem_cons_succ, List.getElem_cons_zero, List.setIfInBounds_toArray, List.set_cons_succ, List.set_cons_zero]
 refine wpAnyK_end (by kernel_rfl) ?_
 try simp only [pickOps, List.filterMap_cons, List.filterMap_nil, List.getElem?_toArray, List.getElem?_cons_succ, List.getElem?_cons_zero]
 obtain ⟨s8, s8'⟩ := HB6.out 0 (by simp)
 simp only [List.getElem_cons_zero] at s8
 go_wp2_with fail
 refine NoPanic.normal ?_
 go_wp2_with fail
 refine leaves_cons (f := 75) (args := #[.pointer (some ⟨w.heap.size + 1, 0, none⟩)]) (by simp) (by simp [go_sem]) ?_
 refine (catchE_idle ⟨w.heap.size + 1, 0, none⟩ _).mono ?_
 rintro e u' w'' ⟨rfl, rfl, rfl⟩
 have far : ∀ i, (w6.setCell ⟨w.heap.size + 1, 0, none⟩ (.int .i64 0)).cell? ⟨w.heap.size, i, none⟩ = w6.cell? ⟨w.heap.size, i, none⟩ := fun i => World.cell?_setCell_other _ _ _ _ (fun e => by injection e with e1; omega)
 have h8 : (w6.setCell ⟨w.heap.size + 1, 0, none⟩ (.int .i64 0)).cell? ⟨w.heap.size + 1, 0, none⟩ = some (.int .i64 0) := World.cell?_setCell_same _ _ _ s8
 have k0 := (show (w6.setCell ⟨w.heap.size + 1, 0, none⟩ (.int .i64 0)).cell? ⟨w.heap.size, 0, none⟩ = some (.int .i64 x.ag) from (far 0).trans (HK6.out 0 (by simp [Ev.cells])).1)
 have k1 := (show (w6.setCell ⟨w.heap.size + 1, 0, none⟩ (.int .i64 0)).cell? ⟨w.heap.size, 1, none⟩ = some (.int .i64 x.sq) from (far 1).trans (HK6.out 1 (by simp [Ev.cells])).1)
 have k2 := (show (w6.setCell ⟨w.heap.size + 1, 0, none⟩ (.int .i64 0)).cell? ⟨w.heap.size, 2, none⟩ = some (.int .i64 x.tm) from (far 2).trans (HK6.out 2 (by simp [Ev.cells])).1)
 have k3 := (show (w6.setCell ⟨w.heap.size + 1, 0, none⟩ (.int .i64 0)).cell? ⟨w.heap.size, 3, none⟩ = some (.int .i64 x.kd) from (far 3).trans (HK6.out 3 (by simp [Ev.cells])).1)
 have k4 := (show (w6.setCell ⟨w.heap.size + 1, 0, none⟩ (.int .i64 0)).cell? ⟨w.heap.size, 4, none⟩ = some (.int .i64 x.tr) from (far 4).trans (HK6.out 4 (by simp [Ev.cells])).1)
 have k5 := (show (w6.setCell ⟨w.heap.size + 1, 0, none⟩ (.int .i64 0)).cell? ⟨w.heap.size, 5, none⟩ = some (.int .i64 x.sp) from (far 5).trans (HK6.out 5 (by simp [Ev.cells])).1)
 have k6 := (show (w6.setCell ⟨w.heap.size + 1, 0, none⟩ (.int .i64 0)).cell? ⟨w.heap.size, 6, none⟩ = some (.int .i64 x.lk) from (far 6).trans (HK6.out 6 (by simp [Ev.cells])).1)
 have k7 := (show (w6.setCell ⟨w.heap.size + 1, 0, none⟩ (.int .i64 0)).cell? ⟨w.heap.size, 7, none⟩ = some (.int .i64 x.gn) from (far 7).trans (HK6.out 7 (by simp [Ev.cells])).1)
 have k8 := (show (w6.setCell ⟨w.heap.size + 1, 0, none⟩ (.int .i64 0)).cell? ⟨w.heap.size, 8, none⟩ = some (.int .i64 x.op) from (far 8).trans (HK6.out 8 (by simp [Ev.cells])).1)
 have k9 := (show (w6.setCell ⟨w.heap.size + 1, 0, none⟩ (.int .i64 0)).cell? ⟨w.heap.size, 9, none⟩ = some (.int .i64 x.vr) from (far 9).trans (HK6.out 9 (by simp [Ev.cells])).1)
 have k10 := (show (w6.setCell ⟨w.heap.size + 1, 0, none⟩ (.int .i64 0)).cell? ⟨w.heap.size, 10, none⟩ = some (.int .i64 x.pe) from (far 10).trans (HK6.out 10 (by simp [Ev.cells])).1)
 have k11 := (show (w6.setCell ⟨w.heap.size + 1, 0, none⟩ (.int .i64 0)).cell? ⟨w.heap.size, 11, none⟩ = some (.int .i64 x.bt) from (far 11).trans (HK6.out 11 (by simp [Ev.cells])).1)
 obtain ⟨hn1, hn2, hn3⟩ := HN.out
 have HBE := Lib.hid (HW6.out.setCell (p := ⟨w.heap.size + 1, 0, none⟩) (by show w.heap.size ≤ w.heap.size + 1; omega) (.int .i64 0))
 generalize (w6.setCell ⟨w.heap.size + 1, 0, none⟩ (.int .i64 0)) = w9 at *
 rw [hn1, hn2, hn3, Ev.val_mk]
 simp [Leaves, settle, results, Tryz.results53, go_sem, k0, k1, k2, k3, k4, k5, k6, k7, k8, k9, k10, k11, h8, HBE.out]
theorem decode_u (s : ByteArray) (hs : s.size ≤ maxLen) (a : Int) (w : World) (hRd : Rdy w) :
 Calls Tryz.prog 22 #[.string s, .int .i64 a] w fun e w' => e = .returned (.tuple #[(decEv s a).val, .int .i64 (decEo s a), .int .i64 (decEe s a)]) ∧ Below w.heap.size w w' := by
 obtain ⟨w1, V1, Z1, K1, B1⟩ := lay8 w zE.cells 23
 have V1 := (show w.alloc (.cells #[.int .i64 0, .int .i64 0, .int .i64 0, .int .i64 0, .int .i64 0, .int .i64 0, .int .i64 0, .int .i64 0, .int .i64 0, .int .i64 0, .int .i64 0, .int .i64 0] 23) = w1 from V1)
 have HD := Lib.hid (decodeE_u s hs a w1 (hRd.below B1))
 have HB1 := Lib.hid B1
 have HK1 := Lib.hid K1
 generalize decEv s a = x at *
 generalize decEo s a = b at *
 generalize decEe s a = er at *
 rw [Ev.val_mk] at HD ⊢
 clear K1 B1 hRd
 go_enter Tryz.func22, Tryz.ntmps22
 go_wp2_with fail
 refine HD.out.mono ?_
 rintro e w4 ⟨rfl, hb⟩
 have HW := Lib.hid (below_up8 HB1.out hb)
 have HK4 := Lib.hid (HK1.out.below hb)
 clear hb V1
 obtain ⟨g0, g0'⟩ := HK4.out 0 (by decide)
 have g0 := (show w4.cell? ⟨w.heap.size, 0, none⟩ = some (.int .i64 0) from g0)
 obtain ⟨g1, g1'⟩ := HK4.out 1 (by decide)
 have g1 := (show w4.cell? ⟨w.heap.size, 1, none⟩ = some (.int .i64 0) from g1)
 obtain ⟨g2, g2'⟩ := HK4.out 2 (by decide)
 have g2 := (show w4.cell? ⟨w.heap.size, 2, none⟩ = some (.int .i64 0) from g2)
 obtain ⟨g3, g3'⟩ := HK4.out 3 (by decide)
 have g3 := (show w4.cell? ⟨w.heap.size, 3, none⟩ = some (.int .i64 0) from g3)
 obtain ⟨g4, g4'⟩ := HK4.out 4 (by decide)
 have g4 := (show w4.cell? ⟨w.heap.size, 4, none⟩ = some (.int .i64 0) from g4)
 obtain ⟨g5, g5'⟩ := HK4.out 5 (by decide)
 have g5 := (show w4.cell? ⟨w.heap.size, 5, none⟩ = some (.int .i64 0) from g5)
 obtain ⟨g6, g6'⟩ := HK4.out 6 (by decide)
 have g6 := (show w4.cell? ⟨w.heap.size, 6, none⟩ = some (.int .i64 0) from g6)
 obtain ⟨g7, g7'⟩ := HK4.out 7 (by decide)
 have g7 := (show w4.cell? ⟨w.heap.size, 7, none⟩ = some (.int .i64 0) from g7)
 obtain ⟨g8, g8'⟩ := HK4.out 8 (by decide)
 have g8 := (show w4.cell? ⟨w.heap.size, 8, none⟩ = some (.int .i64 0) from g8)
 obtain ⟨g9, g9'⟩ := HK4.out 9 (by decide)
 have g9 := (show w4.cell? ⟨w.heap.size, 9, none⟩ = some (.int .i64 0) from g9)
 obtain ⟨g10, g10'⟩ := HK4.out 10 (by decide)
 have g10 := (show w4.cell? ⟨w.heap.size, 10, none⟩ = some (.int .i64 0) from g10)
 obtain ⟨g11, g11'⟩ := HK4.out 11 (by decide)
 have g11 := (show w4.cell? ⟨w.heap.size, 11, none⟩ = some (.int .i64 0) from g11)
 obtain ⟨w5, hw5, K5⟩ : ∃ w5, ((((((((((((w4.setCell ⟨w.heap.size, 0, none⟩ (.int .i64 x.ag)).setCell ⟨w.heap.size, 1, none⟩ (.int .i64 x.sq)).setCell ⟨w.heap.size, 2, none⟩ (.int .i64 x.tm)).setCell ⟨w.heap.size, 3, none⟩ (.int .i64 x.kd)).setCell ⟨w.heap.size, 4, none⟩ (.int .i64 x.tr)).setCell ⟨w.heap.size, 5, none⟩ (.int .i64 x.sp)).setCell ⟨w.heap.size, 6, none⟩ (.int .i64 x.lk)).setCell ⟨w.heap.size, 7, none⟩ (.int .i64 x.gn)).setCell ⟨w.heap.size, 8, none⟩ (.int .i64 x.op)).setCell ⟨w.heap.size, 9, none⟩ (.int .i64 x.vr)).setCell ⟨w.heap.size, 10, none⟩ (.int .i64 x.pe)).setCell ⟨w.heap.size, 11, none⟩ (.int .i64 x.bt)) = w5 ∧ CellsAt w5 w.heap.size x.cells := ⟨_, rfl, ((((((((((((HK4.out.put 0 _).put 1 _).put 2 _).put 3 _).put 4 _).put 5 _).put 6 _).put 7 _).put 8 _).put 9 _).put 10 _).put 11 _)⟩
 have HW5 := Lib.hid (show Below w.heap.size w w5 from by rw [← hw5]; exact belowS9 HW.out)
 obtain ⟨f0, f1, f2, f3, f4, f5, f6, f7, f8, f9, f10, f11⟩ := CellsAt.ev K5
 clear K5
 go_wp2_with fail
 exact bodyPost_ret (v := .tuple #[.agg #[.int .i64 x.ag, .int .i64 x.sq, .int .i64 x.tm, .int .i64 x.kd, .int .i64 x.tr, .int .i64 x.sp, .int .i64 x.lk, .int .i64 x.gn, .int .i64 x.op, .int .i64 x.vr, .int .i64 x.pe, .int .i64 x.bt], .int .i64 b, .int .i64 er]) (by simp [results, Tryz.results22, go_sem, f0, f1, f2, f3, f4, f5, f6, f7, f8, f9, f10, f11]) rfl ⟨rfl, HW5.out⟩
end Go.Proofs.YtnpfhcnjkekhbaaGreatDoor

namespace Go.Proofs.YtnpfhcnjkekhbaaGreatDoor
open Go Go.Proofs Go.RowKit Go.Lib Go.Sort
open W1 (clone_any)
theorem head_yes {s : ByteArray} (hs : s.size ≤ 140737488355328) {a : Int} (h0 : 0 ≤ a) (h1 : a + 32 ≤ (s.size : Int)) (w : World) :
 Calls Tryz.prog 80 #[.string s, .int .i64 a] w fun e w' => e = .returned (.tuple #[.string (s.extract a.toNat (a.toNat + 32)), .int .i64 (a + 32)]) ∧ Below w.heap.size w w' := by
 have HR := Lib.hid (fun W => require_yes W)
 have HCL := Lib.hid (fun W => clone_any (s.extract a.toNat (a.toNat + 32)) W (by rw [ByteArray.size_extract]; omega))
 have hws : IntKind.i64.wrap (a + 32) = a + 32 := wrapq8 (by omega)
 have hsl : ∀ W, (Instr.slice 106 (.string s) (some (.int .i64 a)) (some (.int .i64 (a + 32))) none).run Tryz.prog W = .ok (.string (s.extract a.toNat (a.toNat + 32))) W := fun W => by
  have := run_slice_string (P := Tryz.prog) W 106 s .i64 .i64 a (a + 32) (by kernel_rfl) h0 (by omega) (by omega)
  rw [show (a + 32).toNat = a.toNat + 32 by omega] at this
  exact this
 generalize s.extract a.toNat (a.toNat + 32) = X at *
 go_enter Tryz.func80, Tryz.ntmps80
 go_wp2_with fail
 refine (HR.out _).mono ?_
 rintro e z ⟨rfl, rfl⟩
 go_wp2_with fail
 refine (HCL.out _).mono ?_
 rintro e z2 ⟨rfl, hb⟩
 have HB := Lib.hid hb
 clear hb
 go_wp2_with fail
 go_ret2
 exact ⟨rfl, HB.out⟩
theorem head_no {s : ByteArray} (hs : s.size ≤ 140737488355328) {a : Int} (h0 : 0 ≤ a) (ha : a ≤ (s.size : Int)) (h1 : ¬ a + 32 ≤ (s.size : Int)) (w : World) :
 Calls Tryz.prog 80 #[.string s, .int .i64 a] w fun e w' => e = .panicked panE ∧ w' = w := by
 have HR := Lib.hid (fun W => require_no W)
 have hws : IntKind.i64.wrap (a + 32) = a + 32 := wrapq8 (by omega)
 go_enter Tryz.func80, Tryz.ntmps80
 go_wp2_with fail
 refine (HR.out _).mono ?_
 rintro e z ⟨rfl, rfl⟩
 exact ⟨rfl, rfl, rfl⟩
theorem numV_in {s : ByteArray} {a v b : Int} (h : numV s a = some (v, b)) : 0 ≤ b ∧ b ≤ (s.size : Int) := by
 unfold numV at h
 split at h
 · rename_i hr
   split at h
   · cases h
   · rename_i z n hz
     simp only [Option.some.injEq, Prod.mk.injEq] at h
     obtain ⟨_, hn, hp⟩ := W1.scan_is_enc hz
     have := hp.length_le
     have hlen : s.data.toList.length = s.size := by rw [Array.length_toList]; rfl
     rw [List.length_drop, hlen] at this
     omega
 · cases h
theorem fillV_in (s : ByteArray) : ∀ (n : Nat) (a : Int) (l : List Int) (c : Int), fillV s (n + 1) a = some (l, c) → 0 ≤ c ∧ c ≤ (s.size : Int)
 | 0, a, l, c, h => by
  unfold fillV at h
  split at h
  · cases h
  · rename_i h1
    simp only [fillV, Option.some.injEq, Prod.mk.injEq] at h
    rw [← h.2]
    exact numV_in h1
 | n + 1, a, l, c, h => by
  unfold fillV at h
  split at h
  · cases h
  · split at h
    · cases h
    · rename_i h2
      simp only [Option.some.injEq, Prod.mk.injEq] at h
      rw [← h.2]
      exact fillV_in s n _ _ _ h2
theorem evG_ok {s : ByteArray} {a : Int} {x : Ev} {b : Int} (h : evG s a = some (x, b)) : evB x = true ∧ 0 ≤ b ∧ b ≤ (s.size : Int) := by
 unfold evG at h
 split at h
 · cases h
 · rename_i h1
   split at h
   · rename_i h2
     simp only [Option.some.injEq, Prod.mk.injEq] at h
     rw [← h.1, ← h.2]
     exact ⟨h2, fillV_in s 11 _ _ _ h1⟩
   · cases h
def evsG (s : ByteArray) : Nat → Int → Option (List Ev × Int)
 | 0, a => some ([], a)
 | n + 1, a => match evG s a with
  | none => none
  | some (x, b) => match evsG s n b with
   | none => none
   | some (l, c) => some (x :: l, c)
def btG (s : ByteArray) (a : Int) : Option (Bt × Int) := match fillV s 4 a with
 | none => none
 | some (l, b) => if inB (l.getD 3 0) 0 24 = true then (match evsG s (l.getD 3 0).toNat b with
  | none => none
  | some (es, c) => if c + 32 ≤ (s.size : Int) then
   (if btB ⟨l.getD 0 0, l.getD 1 0, l.getD 2 0, es, s.extract c.toNat (c.toNat + 32)⟩ = true then some (⟨l.getD 0 0, l.getD 1 0, l.getD 2 0, es, s.extract c.toNat (c.toNat + 32)⟩, c + 32) else none)
   else none)
  else none
theorem evB_wf9 {x : Ev} (h : evB x = true) : x.wf := fit_wf ⟨by have := (evB_bd h).1; omega, by have := (evB_bd h).1; omega⟩
def btPs (B C : Nat) : List Addr := [⟨B, 0, none⟩, ⟨B, 1, none⟩, ⟨B, 3, none⟩, ⟨C, 0, none⟩]
theorem btPs_mem {B C : Nat} {q : Addr} (h : q ∈ btPs B C) : q = ⟨B, 0, none⟩ ∨ q = ⟨B, 1, none⟩ ∨ q = ⟨B, 3, none⟩ ∨ q = ⟨C, 0, none⟩ := by
 simpa [btPs] using h
theorem btPs_nd {B C : Nat} (hne : B ≠ C) (i j : Nat) (hi : i < (btPs B C).length) (hj : j < (btPs B C).length) (e : (btPs B C)[i] = (btPs B C)[j]) : i = j := by
 have hi : i < 4 := hi
 have hj : j < 4 := hj
 have h4 : ∀ k, k < 4 → k = 0 ∨ k = 1 ∨ k = 2 ∨ k = 3 := by omega
 rcases h4 i hi with rfl | rfl | rfl | rfl <;> rcases h4 j hj with rfl | rfl | rfl | rfl <;> first | rfl | (exfalso; simp [btPs] at e; done) | (exfalso; simp [btPs] at e; omega)
theorem four9 {l : List Int} (h : l.length = 4) : ∃ v0 v1 v2 v3, l = [v0, v1, v2, v3] := by
 match l, h with
 | [v0, v1, v2, v3], _ => exact ⟨v0, v1, v2, v3, rfl⟩
def Reads9 (R : Nat) (s : ByteArray) (a : Int) (A : World) : Prop := A.cell? ⟨R, 0, none⟩ = some (.string s) ∧ A.cell? ⟨R, 1, none⟩ = some (.int .i64 a)
def Holds9 (a : Addr) (v : Value) (A : World) : Prop := A.cell? a = some v
def BatP (s : ByteArray) (R : Nat) (a : Int) (w : World) (e : Ending) (w' : World) : Prop := w.grownBy w' (some R) ∧
 ((∃ b c ad n sc, btG s a = some (b, c) ∧ e = .returned (.agg #[.int .i64 b.ag, .int .i64 b.fs, .slice ad n sc, .int .i64 b.lw, .string b.hd]) ∧ n = b.ev.length ∧ n ≤ sc ∧ (ad = none → sc = 0) ∧ RN KE w' w.heap.size ad b.ev ∧ w'.cell? ⟨R, 0, none⟩ = some (.string s) ∧ w'.cell? ⟨R, 1, none⟩ = some (.int .i64 c) ∧ w'.frozen? ⟨R, 1, none⟩ = false) ∨ (btG s a = none ∧ e = .panicked panE))
structure BatI (s : ByteArray) (R : Nat) (w : World) (m : Nat) (v0 v1 v2 ak : Int) (sl : Value) (es : List Ev) (W : World) : Prop where
 gr : w.grownBy W (some R)
 sz : m ≤ W.heap.size
 r0 : W.cell? ⟨R, 0, none⟩ = some (.string s)
 r1 : W.cell? ⟨R, 1, none⟩ = some (.int .i64 ak)
 rz : W.frozen? ⟨R, 1, none⟩ = false
 cb : CellsAt W (w.heap.size + 1) [.int .i64 v0, .int .i64 v1, sl, .int .i64 v2, .string ⟨#[]⟩]
 c2 : CellsAt W w.heap.size [.int .i64 0, .int .i64 0, .slice none 0 0, .int .i64 0, .string ⟨#[]⟩]
 ow : Own KE W m sl es
 ok : ∀ x ∈ es, evB x = true
 ai : 0 ≤ ak ∧ ak ≤ (s.size : Int)
theorem grown_cells9 {W W' : World} {R B : Nat} {v : Value} {vs : List Value} (h : W.grownBy W' (some R)) (hne : B ≠ R) (hc : CellsAt W B (v :: vs)) : CellsAt W' B (v :: vs) := hc.grown h (fun e => hne (by injection e))
theorem own_grown9 {W W' : World} {R n : Nat} {v : Value} {l : List Ev} (h : W.grownBy W' (some R)) (hR : R < n) (ho : Own KE W n v l) : Own KE W' n v l :=
 own_move8 ho fun j hj => h.block j (ho.ge j hj).2 (fun e => by have := (ho.ge j hj).1; injection e; omega)
theorem grown_two9 {w W W' : World} {R : Option Nat} (h : w.grownBy W R) (h2 : W.grownBy W' R) : w.grownBy W' R :=
 ⟨h2.os.trans h.os, h2.tape.trans h.tape, h2.output.trans h.output, Nat.le_trans h.size h2.size, fun k hk hr => (h2.block k (Nat.lt_of_lt_of_le hk h.size) hr).trans (h.block k hk hr)⟩
theorem batch9_u (s : ByteArray) (hs : s.size ≤ 140737488355328) (R : Nat) (a : Int) (w : World) (hRd : Rdy w) (hRg : 0 < R) (hR : R < w.heap.size) (r0 : w.cell? ⟨R, 0, none⟩ = some (.string s)) (r1 : w.cell? ⟨R, 1, none⟩ = some (.int .i64 a)) (rz : w.frozen? ⟨R, 1, none⟩ = false) :
    Calls Tryz.prog 57 #[.pointer (some ⟨R, 0, none⟩)] w (BatP s R a w) := by
  have hsm : s.size ≤ maxLen := by unfold maxLen; omega
  obtain ⟨w1, V1, Z1, K1, B1⟩ := lay8 w [.int .i64 0, .int .i64 0, .slice none 0 0, .int .i64 0, .string ⟨#[]⟩] 26
  have V1 := (show w.alloc (.cells #[.int .i64 0, .int .i64 0, .slice none 0 0, .int .i64 0, .string ⟨#[]⟩] 26) = w1 from V1)
  obtain ⟨w2, V2, Z2, K2, B2⟩ := lay8 w1 [.int .i64 0, .int .i64 0, .slice none 0 0, .int .i64 0, .string ⟨#[]⟩] 26
  have V2 := (show w1.alloc (.cells #[.int .i64 0, .int .i64 0, .slice none 0 0, .int .i64 0, .string ⟨#[]⟩] 26) = w2 from V2)
  obtain ⟨w3, V3, Z3, K3, B3⟩ := lay8 w2 [.int .i64 0] 3
  have V3 := (show w2.alloc (.cells #[.int .i64 0] 3) = w3 from V3)
  obtain ⟨w4, V4, Z4, K4, B4⟩ := lay8 w3 ((btPs (w.heap.size + 1) (w.heap.size + 1 + 1)).map fun q => .pointer (some q)) 110
  have V4 := (show w3.alloc (.cells #[.pointer (some ⟨w.heap.size + 1, 0, none⟩), .pointer (some ⟨w.heap.size + 1, 1, none⟩), .pointer (some ⟨w.heap.size + 1, 3, none⟩), .pointer (some ⟨w.heap.size + 1 + 1, 0, none⟩)] 110) = w4 from V4)
  rw [Z1] at Z2 K2 B2
  rw [Z2] at Z3 K3 B3
  rw [Z3] at Z4 K4 B4
  have KA := ((K1.up B2 (by omega)).up B3 (by omega)).up B4 (by omega)
  have KB := (K2.up B3 (by omega)).up B4 (by omega)
  have KC := K3.up B4 (by omega)
  have hB4 : Below w.heap.size w w4 := B1.trans ((B2.mono (by omega)).trans ((B3.mono (by omega)).trans (B4.mono (by omega))))
  have HFP := Lib.hid (show FillP R (btPs (w.heap.size + 1) (w.heap.size + 1 + 1)) w4 from by
    refine ⟨btPs_nd (by omega), fun q hq => ?_, fun q hq => ?_, (hB4.frozen (p := ⟨R, 1, none⟩) hR).trans rz⟩
    · rcases btPs_mem hq with rfl | rfl | rfl | rfl <;> (simp; omega)
    · rcases btPs_mem hq with rfl | rfl | rfl | rfl
      · exact ⟨(KB 0 (by simp)).2, _, (KB 0 (by simp)).1⟩
      · exact ⟨(KB 1 (by simp)).2, _, (KB 1 (by simp)).1⟩
      · exact ⟨(KB 3 (by simp)).2, _, (KB 3 (by simp)).1⟩
      · exact ⟨(KC 0 (by simp)).2, _, (KC 0 (by simp)).1⟩)
  have hbk : ∀ q ∈ btPs (w.heap.size + 1) (w.heap.size + 1 + 1), w.heap.size ≤ q.block ∧ q.block < w.heap.size + 1 + 1 + 1 ∧ q.block ≠ w.heap.size := fun q hq => by
    rcases btPs_mem hq with rfl | rfl | rfl | rfl <;> (simp; try omega)
  have HBK := Lib.hid hbk
  have HFI := Lib.hid (fill_u s hsm R (w.heap.size + 1 + 1 + 1) 4 (btPs (w.heap.size + 1) (w.heap.size + 1 + 1)) a (show 4 ≤ 1000 by decide) w4 HFP.out ⟨by omega, fun q hq => by have := hbk q hq; omega⟩
    (.inr ⟨_, 0, rfl, by omega, fun i hi j hj => by
      have hj0 : j = 0 := by have : j < 1 := hj; omega
      subst hj0
      have h := (K4 i (by rw [List.length_map]; exact hi)).1
      rw [List.getElem_map] at h
      rw [show 0 + KP9.n * i + 0 = i by show 0 + 1 * i + 0 = i; omega, h]
      rfl⟩) ((hB4.cell (p := ⟨R, 0, none⟩) hR).trans r0) ((hB4.cell (p := ⟨R, 1, none⟩) hR).trans r1))
  have HFI := Lib.hid (show Calls Tryz.prog 76 #[.pointer (some ⟨R, 0, none⟩), .slice (some ⟨w.heap.size + 1 + 1 + 1, 0, none⟩) 4 4] w4 _ from HFI.out)
  have HRD := Lib.hid hRd
  have HKA := Lib.hid KA
  have HKB := Lib.hid KB
  have HB4 := Lib.hid hB4
  have HZ4 := Lib.hid (show w4.heap.size = w.heap.size + 1 + 1 + 1 + 1 from Z4)
  have HIN := Lib.hid (fun v W => isIn9_u v 0 24 W)
  clear K1 K2 K3 K4 B1 B2 B3 B4 KA KB KC hB4 hRd r0 r1 rz Z4 hbk
  go_enter Tryz.func57, Tryz.ntmps57
  go_wp2_with fail
  refine HFI.out.mono ?_
  rintro e w5 (⟨vs, b, hf, rfl, hI⟩ | ⟨hf, rfl, hF⟩)
  rotate_left
  · have HGR := Lib.hid (show w.grownBy w5 (some R) from grown_fill9 HB4.out hF (fun q hq => (HBK.out q hq).1))
    have HN := Lib.hid (show btG s a = none from by unfold btG; rw [show fillV s 4 a = none from hf])
    clear V1 V2 V3 V4 hf hF
    exact ⟨rfl, HGR.out, .inr ⟨HN.out, rfl⟩⟩
  have hf := (show fillV s 4 a = some (vs, b) from hf)
  obtain ⟨v0, v1, v2, v3, rfl⟩ := four9 (fillV_len s 4 a vs b hf)
  have c3 : w5.cell? ⟨w.heap.size + 1 + 1, 0, none⟩ = some (.int .i64 v3) := hI.vals 3 (by simp) (show 3 < 4 by decide)
  have hm : ∀ x, x ∉ btPs (w.heap.size + 1) (w.heap.size + 1 + 1) → x ≠ ⟨R, 1, none⟩ → w5.cell? x = w4.cell? x := fun x h1 h2 => hI.far x (fun h => h1 (List.mem_of_mem_take h)) h2
  have HBI := Lib.hid (show BatI s R w (w.heap.size + 1 + 1 + 1 + 1) v0 v1 v2 b (.slice none 0 0) [] w5 from by
    refine ⟨grown_fill9 HB4.out hI.bl (fun q hq => (HBK.out q hq).1), by rw [hI.bl.size, HZ4.out]; exact Nat.le_refl _, hI.r0, hI.r1, (hI.fz _).trans HFP.out.rz, fun i hi => ⟨?_, (hI.fz _).trans (HKB.out i hi).2⟩, fun i hi => ⟨?_, (hI.fz _).trans (HKA.out i hi).2⟩, Own.nil _ _ _, fun x hx => (by cases hx), fillV_in s 3 a _ b hf⟩
    · have h5 : i < 5 := hi
      match i, h5 with
      | 0, _ => exact hI.vals 0 (by simp) (show 0 < 4 by decide)
      | 1, _ => exact hI.vals 1 (by simp) (show 1 < 4 by decide)
      | 2, _ => exact (hm ⟨w.heap.size + 1, 2, none⟩ (by simp [btPs]) (by simp)).trans (HKB.out 2 (by simp)).1
      | 3, _ => exact hI.vals 2 (by simp) (show 2 < 4 by decide)
      | 4, _ => exact (hm ⟨w.heap.size + 1, 4, none⟩ (by simp [btPs]) (by simp)).trans (HKB.out 4 (by simp)).1
    · exact (hm ⟨w.heap.size, i, none⟩ (fun h => (HBK.out _ h).2.2 rfl) (by simp)).trans (HKA.out i hi).1)
  have HG := Lib.hid (show btG s a = if inB v3 0 24 = true then (match evsG s v3.toNat b with
        | none => none
        | some (es, c) => if c + 32 ≤ (s.size : Int) then
            (if btB ⟨v0, v1, v2, es, s.extract c.toNat (c.toNat + 32)⟩ = true then some ((⟨v0, v1, v2, es, s.extract c.toNat (c.toNat + 32)⟩ : Bt), c + 32) else none)
          else none)
      else none from by unfold btG; rw [hf]; rfl)
  obtain ⟨GV, hGV⟩ : ∃ GV, btG s a = GV := ⟨_, rfl⟩
  have HGV := Lib.hid hGV
  rw [hGV] at HG
  clear V1 V2 V3 V4 hI hf hm Z1 Z2 Z3 hGV
  cases hin : inB v3 0 24 with
  | false =>
    have HN := Lib.hid (show GV = none from by rw [HG.out, hin]; rfl)
    have HI3 := Lib.hid (fun W => HIN.out v3 W)
    rw [hin] at HI3
    have HRQ := Lib.hid (fun W => require_no W)
    clear hin
    go_wp2_with (go_at_call 71; refine (HI3.out _).mono ?_; rintro e z ⟨rfl, rfl⟩)
    refine (HRQ.out _).mono ?_
    rintro e z2 ⟨rfl, hz⟩
    rw [hz]
    exact ⟨rfl, HBI.out.gr, .inr ⟨by rw [HGV.out, HN.out], rfl⟩⟩
  | true =>
    have HI3 := Lib.hid (fun W => HIN.out v3 W)
    have hv := of_inB hin
    rw [hin] at HI3 HG
    have HRQ := Lib.hid (fun W => require_yes W)
    obtain ⟨N, hN⟩ := Int.eq_ofNat_of_zero_le hv.1
    have HN24 := Lib.hid (show N ≤ 24 from by omega)
    subst hN
    have HG2 := Lib.hid (show GV = match evsG s N b with
        | none => none
        | some (es, c) => if c + 32 ≤ (s.size : Int) then
            (if btB ⟨v0, v1, v2, es, s.extract c.toNat (c.toNat + 32)⟩ = true then some ((⟨v0, v1, v2, es, s.extract c.toNat (c.toNat + 32)⟩ : Bt), c + 32) else none)
          else none from by
      have h := HG.out
      rw [if_pos rfl, Int.toNat_natCast] at h
      exact h)
    clear hin hv
    go_wp2_with (first | (go_at_call 71; refine (HI3.out _).mono ?_; rintro e z ⟨rfl, rfl⟩) | (go_at_call 77; refine (HRQ.out _).mono ?_; rintro e z ⟨rfl, rfl⟩))
    go_loopw [15] (fun i wr => ∃ (es : List Ev) (ak : Int) (sad : Option Addr) (sc : Nat), i = .int .i64 (es.length : Nat) ∧ es.length ≤ N ∧ Hid (BatI s R w (w.heap.size + 1 + 1 + 1 + 1) v0 v1 v2 ak (.slice sad es.length sc) es wr) ∧ Hid (evsG s N b = match evsG s (N - es.length) ak with
        | none => none
        | some (l, c) => some (es ++ l, c))) (fun i _ => N - (RowKit.intOf i).toNat)
    case atStart => exact ⟨[], b, none, 0, rfl, Nat.zero_le _, HBI, Lib.hid (show evsG s N b = (match evsG s N b with
        | none => none
        | some (l, c) => some ([] ++ l, c)) from by cases evsG s N b with
      | none => rfl
      | some p => rfl)⟩
    case round =>
      clear HBI
      obtain ⟨es, ak, sad, sc, rfl, hk, HI, HF⟩ := hrel
      obtain ⟨k, hkk⟩ : ∃ k, k = es.length := ⟨_, rfl⟩
      have HK := Lib.hid hkk
      rw [← hkk] at hk HF HI ⊢
      clear hkk
      by_cases hlt : k < N
      · have hki : (k : Int) < (N : Int) := by omega
        have hn24 := HN24.out
        have HLT := Lib.hid hlt
        have hstep : evsG s (N - k) ak = match evG s ak with
          | none => none
          | some (x, b) => match evsG s (N - (k + 1)) b with
            | none => none
            | some (l, c) => some (x :: l, c) := by
          rw [show N - k = (N - (k + 1)) + 1 by omega]
          rfl
        rw [hstep] at HF
        have hRB : R ≠ w.heap.size + 1 := by omega
        obtain ⟨w6, hw6⟩ : ∃ w6, { wr with drawn := wr.drawn + 1 } = w6 := ⟨_, rfl⟩
        have HI6 := Lib.hid (show BatI s R w (w.heap.size + 1 + 1 + 1 + 1) v0 v1 v2 ak (.slice sad k sc) es w6 from by rw [← hw6]; exact ⟨⟨HI.out.gr.os, HI.out.gr.tape, HI.out.gr.output, HI.out.gr.size, HI.out.gr.block⟩, HI.out.sz, HI.out.r0, HI.out.r1, HI.out.rz, HI.out.cb, HI.out.c2, HI.out.ow, HI.out.ok, HI.out.ai⟩)
        have HEV := Lib.hid (event9_u s hsm R ak w6 (HRD.out.up (below_grown9 HI6.out.gr (Nat.le_of_lt hR)) hRg) hRg (by have := HI6.out.sz; omega) HI6.out.r0 HI6.out.r1 HI6.out.rz)
        have HY := Lib.hid (show ∀ A : World, Holds9 ⟨w.heap.size + 1, 2, none⟩ (.slice sad k sc) A → A.cell? ⟨w.heap.size + 1, 2, none⟩ = some (.slice sad k sc) from fun A h => h)
        clear hstep hlt
        go_upto_region 7 with fail
        refine wp_region_K (C := Holds9 ⟨w.heap.size + 1, 2, none⟩ (.slice sad k sc)) [7] 7 #[false, false, false, false, false, false, false, false] (by kernel_rfl) (by kernel_rfl) (by kernel_rfl) (by rw [hw6]; exact (HI6.out.cb 2 (by simp)).1) ?_
        rw [hw6]
        clear hw6
        refine wpAnyK_ex (i := 0) rfl (by kernel_rfl) (listed' := #[true, false, false, false, false, false, false, false]) rfl (fun _ _ d _ _ h => by cases d <;> exact h) (HI6.out.cb 2 (by simp)).1 ?_
        apply Exists.intro
        refine ⟨⟨by kernel_rfl, fun wy hw => ?_⟩, ?_⟩
        · (have y0 := HY.out wy hw; go_simp; try (first | (with_reducible rfl) | (with_reducible exact ⟨rfl, rfl⟩)))
        try simp only [Act.put, List.getElem_toArray, List.getElem_cons_zero, List.setIfInBounds_toArray, List.set_cons_succ, List.set_cons_zero]
        refine wpAnyK_ex (i := 1) rfl (by kernel_rfl) (listed' := #[true, true, false, false, false, false, false, false]) rfl (fun _ _ d _ _ h => by cases d <;> exact h) (HI6.out.cb 2 (by simp)).1 ?_
        apply Exists.intro
        refine ⟨⟨by kernel_rfl, fun wy hw => ?_⟩, ?_⟩
        · (have y0 := HY.out wy hw; go_simp; try (first | (with_reducible rfl) | (with_reducible exact ⟨rfl, rfl⟩)))
        try simp only [Act.put, List.getElem_toArray, List.getElem_cons_succ, List.getElem_cons_zero, List.setIfInBounds_toArray, List.set_cons_succ, List.set_cons_zero]
        refine wpAnyK_ex (i := 2) rfl (by kernel_rfl) (listed' := #[true, true, true, false, false, false, false, false]) rfl (fun _ _ d _ _ h => by cases d <;> exact h) (HI6.out.cb 2 (by simp)).1 ?_
        apply Exists.intro
        refine ⟨⟨by kernel_rfl, fun wy hw => ?_⟩, ?_⟩
        · (have y0 := HY.out wy hw; go_simp; try (first | (with_reducible rfl) | (with_reducible exact ⟨rfl, rfl⟩)))
        try simp only [Act.put, List.getElem_toArray, List.getElem_cons_succ, List.getElem_cons_zero, List.setIfInBounds_toArray, List.set_cons_succ, List.set_cons_zero]
        refine wpAnyK_fork1 3 (by kernel_rfl) ?_
        refine wpOpK_step rfl (by kernel_rfl) (listed' := #[true, true, true, true, false, false, false, false]) rfl (by kernel_rfl) (fun K hK => ?_)
        go_simp
        refine HEV.out.mono ?_
        rintro e w7 ⟨hg, (⟨x, b2, hx, rfl, e0, e1, ez⟩ | ⟨hn, rfl⟩)⟩
        rotate_left
        · have HN := Lib.hid (show GV = none from by rw [HG2.out, HF.out, hn])
          have HGW := Lib.hid (grown_two9 HI6.out.gr hg)
          clear hn hg
          exact ⟨rfl, HGW.out, .inr ⟨by rw [HGV.out, HN.out], rfl⟩⟩
        have hxo := evG_ok hx
        have HI7 := Lib.hid (show BatI s R w (w.heap.size + 1 + 1 + 1 + 1) v0 v1 v2 b2 (.slice sad k sc) es w7 from ⟨grown_two9 HI6.out.gr hg, Nat.le_trans HI6.out.sz hg.size, e0, e1, ez, grown_cells9 hg (by omega) HI6.out.cb, grown_cells9 hg (by omega) HI6.out.c2, own_grown9 hg (by omega) HI6.out.ow, HI6.out.ok, hxo.2⟩)
        have HXO := Lib.hid hxo.1
        have HFX := Lib.hid (show evsG s N b = match evsG s (N - (k + 1)) b2 with
            | none => none
            | some (l, c) => some ((es ++ [x]) ++ l, c) from by
          rw [HF.out, hx]
          dsimp only
          cases evsG s (N - (k + 1)) b2 with
          | none => rfl
          | some p => obtain ⟨l, c⟩ := p; dsimp only; rw [List.append_assoc]; rfl)
        obtain ⟨wB, VB, ZB, KB, BB⟩ := lay8 w7 x.cells 23
        have VB := (show w7.alloc (.cells #[.int .i64 x.ag, .int .i64 x.sq, .int .i64 x.tm, .int .i64 x.kd, .int .i64 x.tr, .int .i64 x.sp, .int .i64 x.lk, .int .i64 x.gn, .int .i64 x.op, .int .i64 x.vr, .int .i64 x.pe, .int .i64 x.bt] 23) = wB from VB)
        have HKB2 := Lib.hid (show CellsAt wB w7.heap.size (KE.cs x) from KB)
        have HBB := Lib.hid BB
        have HCB := Lib.hid (HI7.out.cb.up BB (show w.heap.size + 1 < w7.heap.size by have := HI7.out.sz; omega))
        clear hg hx e0 e1 ez hxo KB BB HF HEV
        rw [Ev.val_mk]
        refine hK _ _ (HI7.out.cb 2 (by simp)).1 ?_
        clear hK K
        try simp only [Act.put, List.getElem_toArray, List.getElem_cons_succ, List.getElem_cons_zero, List.setIfInBounds_toArray, List.set_cons_succ, List.set_cons_zero]
        refine wpAnyK_fork1 4 (by kernel_rfl) ?_
        refine wpOpK_step rfl (by kernel_rfl) (listed' := #[true, true, true, true, true, false, false, false]) rfl (by kernel_rfl) (fun K hK => ?_)
        go_simp
        refine hK _ _ (HCB.out 2 (by simp)).1 ?_
        clear hK K VB
        try simp only [Act.put, List.getElem_toArray, List.getElem_cons_succ, List.getElem_cons_zero, List.setIfInBounds_toArray, List.set_cons_succ, List.set_cons_zero]
        refine wpAnyK_fork1 5 (by kernel_rfl) ?_
        refine wpOpK_step rfl (by kernel_rfl) (listed' := #[true, true, true, true, true, true, false, false]) rfl (by kernel_rfl) (fun K hK => ?_)
        refine oper_append8 KE _ _ rfl (w.heap.size + 1 + 1 + 1 + 1) (.slice sad k sc) es [x] rfl (HI7.out.ow.below HBB.out (Nat.le_refl _)) (by have := HI7.out.sz; have := HBB.out.size; omega) (some ⟨w7.heap.size, 0, none⟩) 1 1 rfl rfl (.inr ⟨_, 0, rfl, by omega, fun i hi j hj => ?_⟩) (fun h => by cases h) (by rw [← HK.out]; have := HN24.out; have := HLT.out; show k + 1 ≤ _; omega) ?_
        · have hi0 : i = 0 := by have : i < 1 := hi; omega
          subst hi0
          have := (HKB2.out j (by rw [KE.len]; exact hj)).1
          rw [show 0 + KE.n * 0 + j = j by omega, this]
          simp
        intro v9 w9 ho9 hg9 hk9
        obtain ⟨sad9, sc9, e9, hsc9⟩ := ho9.form
        subst e9
        have hge := fun k h => (HI7.out.ow.ge k h).1
        have hl9 : (es ++ [x]).length = k + 1 := by rw [List.length_append, ← HK.out]; rfl
        have HL9 := Lib.hid hl9
        have HC9 := Lib.hid (HCB.out.grown hg9 (fun e => by have := hge _ e.symm; omega))
        have HBW := Lib.hid (show BatI s R w (w.heap.size + 1 + 1 + 1 + 1) v0 v1 v2 b2 (.slice sad9 (k + 1) sc9) (es ++ [x]) (w9.setCell ⟨w.heap.size + 1, 2, none⟩ (.slice sad9 (k + 1) sc9)) from by
          have hg := grown_then9 HI7.out.gr HBB.out
          have hzB := HBB.out.size
          have hz7 := HI7.out.sz
          have hz9 := hg9.size
          have hgw : w.grownBy w9 (some R) := ⟨hg9.os.trans hg.os, hg9.tape.trans hg.tape, hg9.output.trans hg.output, Nat.le_trans hg.size hg9.size, fun q hq hr => (hg9.block q (by omega) (fun e => by have := hge _ e.symm; omega)).trans (hg.block q hq hr)⟩
          have kept : ∀ q, q < w.heap.size + 1 + 1 + 1 + 1 → w9.heap[q]? = w7.heap[q]? := fun q hq => (hg9.block q (by omega) (fun e => by have := hge _ e.symm; omega)).trans (HBB.out.block q (by omega))
          rw [← hl9]
          refine ⟨grownBy_setC9 hgw (by show w.heap.size ≤ w.heap.size + 1; omega), by simp; omega, ?_, ?_, ?_, HC9.out.put 2 _, ?_, ho9.far (fun e => by have := (ho9.ge _ e).1; omega), fun y hy => ?_, HI7.out.ai⟩
          · refine (World.cell?_setCell_other _ _ _ _ (fun e => by injection e with e1; omega)).trans ((World.cell?_of_block (a := ⟨R, 0, none⟩) (kept R (by omega))).trans HI7.out.r0)
          · refine (World.cell?_setCell_other _ _ _ _ (fun e => by injection e with e1; omega)).trans ((World.cell?_of_block (a := ⟨R, 1, none⟩) (kept R (by omega))).trans HI7.out.r1)
          · rw [World.frozen?_setCell]
            exact (frozen_of_block9 (kept R (by omega))).trans HI7.out.rz
          · exact ((HI7.out.c2.up HBB.out (by omega)).grown hg9 (fun e => by have := hge _ e.symm; omega)).far (by omega)
          · rcases List.mem_append.1 hy with hy | hy
            · exact HI7.out.ok y hy
            · rw [List.mem_singleton.1 hy]; exact HXO.out)
        obtain ⟨y2, y2'⟩ := HC9.out 2 (by simp)
        have y2 := (show w9.cell? ⟨w.heap.size + 1, 2, none⟩ = some (.slice sad k sc) from y2)
        refine hK _ _ y2 ?_
        clear hK K ho9 hg9 hk9 hge hsc9
        rw [hl9]
        clear hl9
        try simp only [Act.put, List.getElem_toArray, List.getElem_cons_succ, List.getElem_cons_zero, List.setIfInBounds_toArray, List.set_cons_succ, List.set_cons_zero]
        refine wpAnyK_ex (i := 6) rfl (by kernel_rfl) (listed' := #[true, true, true, true, true, true, true, false]) rfl (fun _ _ d _ _ h => by cases d <;> exact h) y2 ?_
        apply Exists.intro
        refine ⟨⟨by kernel_rfl, fun wy hw => ?_⟩, ?_⟩
        · (have y0 := HY.out wy hw; go_simp; try (first | (with_reducible rfl) | (with_reducible exact ⟨rfl, rfl⟩)))
        try simp only [Act.put, List.getElem_toArray, List.getElem_cons_succ, List.getElem_cons_zero, List.setIfInBounds_toArray, List.set_cons_succ, List.set_cons_zero]
        refine wpAnyK_end (by kernel_rfl) ?_
        try simp only [pickOps, List.filterMap_cons, List.filterMap_nil, List.getElem?_toArray, List.getElem?_cons_succ, List.getElem?_cons_zero]
        go_wp2_with fail
        go_roundw
        case rel => exact ⟨es ++ [x], b2, sad9, sc9, by rw [HL9.out]; go_num, by rw [HL9.out]; exact HLT.out, by rw [HL9.out]; exact HBW, by rw [HL9.out]; exact HFX⟩
        case measure => have := HLT.out; simp [RowKit.intOf]; omega
      · have hke : k = N := by omega
        have hki : ¬ (k : Int) < (N : Int) := by omega
        have HFE := Lib.hid (show evsG s N b = some (es, ak) from by rw [HF.out, hke, Nat.sub_self]; show some (es ++ [], ak) = _; rw [List.append_nil])
        have HG3 := Lib.hid (show GV = if ak + 32 ≤ (s.size : Int) then
                (if btB ⟨v0, v1, v2, es, s.extract ak.toNat (ak.toNat + 32)⟩ = true then some ((⟨v0, v1, v2, es, s.extract ak.toNat (ak.toNat + 32)⟩ : Bt), ak + 32) else none)
              else none from by rw [HG2.out, HFE.out])
        have HKN := Lib.hid hke
        obtain ⟨w6, hw6⟩ : ∃ w6, { wr with drawn := wr.drawn + 1 } = w6 := ⟨_, rfl⟩
        have HI6 := Lib.hid (show BatI s R w (w.heap.size + 1 + 1 + 1 + 1) v0 v1 v2 ak (.slice sad k sc) es w6 from by rw [← hw6]; exact ⟨⟨HI.out.gr.os, HI.out.gr.tape, HI.out.gr.output, HI.out.gr.size, HI.out.gr.block⟩, HI.out.sz, HI.out.r0, HI.out.r1, HI.out.rz, HI.out.cb, HI.out.c2, HI.out.ow, HI.out.ok, HI.out.ai⟩)
        have HY := Lib.hid (show ∀ A : World, Reads9 R s ak A → A.cell? ⟨R, 0, none⟩ = some (.string s) ∧ A.cell? ⟨R, 1, none⟩ = some (.int .i64 ak) from fun A h => h)
        clear hlt hke
        by_cases hh : ak + 32 ≤ (s.size : Int)
        · skip
          have HH := Lib.hid (fun W => head_yes hs HI6.out.ai.1 hh W)
          have HG4 := Lib.hid (show GV = (if btB ⟨v0, v1, v2, es, s.extract ak.toNat (ak.toNat + 32)⟩ = true then some ((⟨v0, v1, v2, es, s.extract ak.toNat (ak.toNat + 32)⟩ : Bt), ak + 32) else none) from by rw [HG3.out, if_pos hh])
          generalize s.extract ak.toNat (ak.toNat + 32) = X at *
          clear hh HG3
          go_upto_region 9 with fail
          refine wp_region_K (C := Reads9 R s ak) [17] 17 #[false, false, false, false, false, false, false, false, false, false, false, false, false, false, false, false, false, false] (by kernel_rfl) (by kernel_rfl) (by kernel_rfl) (by rw [hw6]; exact ⟨HI6.out.r0, HI6.out.r1⟩) ?_
          rw [hw6]
          clear hw6
          refine wpAnyK_ex (i := 0) rfl (by kernel_rfl) (listed' := #[true, false, false, false, false, false, false, false, false, false, false, false, false, false, false, false, false, false]) rfl (fun _ _ d _ _ h => by cases d <;> exact h) ⟨HI6.out.r0, HI6.out.r1⟩ ?_
          apply Exists.intro
          refine ⟨⟨by kernel_rfl, fun wy hw => ?_⟩, ?_⟩
          · (obtain ⟨y0, y1⟩ := HY.out wy hw; go_simp; try (first | (with_reducible rfl) | (with_reducible exact ⟨rfl, rfl⟩)))
          try simp only [Act.put, List.getElem_toArray, List.getElem_cons_zero, List.setIfInBounds_toArray, List.set_cons_succ, List.set_cons_zero]
          refine wpAnyK_ex (i := 1) rfl (by kernel_rfl) (listed' := #[true, true, false, false, false, false, false, false, false, false, false, false, false, false, false, false, false, false]) rfl (fun _ _ d _ _ h => by cases d <;> exact h) ⟨HI6.out.r0, HI6.out.r1⟩ ?_
          apply Exists.intro
          refine ⟨⟨by kernel_rfl, fun wy hw => ?_⟩, ?_⟩
          · (obtain ⟨y0, y1⟩ := HY.out wy hw; go_simp; try (first | (with_reducible rfl) | (with_reducible exact ⟨rfl, rfl⟩)))
          try simp only [Act.put, List.getElem_toArray, List.getElem_cons_succ, List.getElem_cons_zero, List.setIfInBounds_toArray, List.set_cons_succ, List.set_cons_zero]
          refine wpAnyK_ex (i := 2) rfl (by kernel_rfl) (listed' := #[true, true, true, false, false, false, false, false, false, false, false, false, false, false, false, false, false, false]) rfl (fun _ _ d _ _ h => by cases d <;> exact h) ⟨HI6.out.r0, HI6.out.r1⟩ ?_
          apply Exists.intro
          refine ⟨⟨by kernel_rfl, fun wy hw => ?_⟩, ?_⟩
          · (obtain ⟨y0, y1⟩ := HY.out wy hw; go_simp; try (first | (with_reducible rfl) | (with_reducible exact ⟨rfl, rfl⟩)))
          try simp only [Act.put, List.getElem_toArray, List.getElem_cons_succ, List.getElem_cons_zero, List.setIfInBounds_toArray, List.set_cons_succ, List.set_cons_zero]
          refine wpAnyK_ex (i := 3) rfl (by kernel_rfl) (listed' := #[true, true, true, true, false, false, false, false, false, false, false, false, false, false, false, false, false, false]) rfl (fun _ _ d _ _ h => by cases d <;> exact h) ⟨HI6.out.r0, HI6.out.r1⟩ ?_
          apply Exists.intro
          refine ⟨⟨by kernel_rfl, fun wy hw => ?_⟩, ?_⟩
          · (obtain ⟨y0, y1⟩ := HY.out wy hw; go_simp; try (first | (with_reducible rfl) | (with_reducible exact ⟨rfl, rfl⟩)))
          try simp only [Act.put, List.getElem_toArray, List.getElem_cons_succ, List.getElem_cons_zero, List.setIfInBounds_toArray, List.set_cons_succ, List.set_cons_zero]
          refine wpAnyK_ex (i := 4) rfl (by kernel_rfl) (listed' := #[true, true, true, true, true, false, false, false, false, false, false, false, false, false, false, false, false, false]) rfl (fun _ _ d _ _ h => by cases d <;> exact h) ⟨HI6.out.r0, HI6.out.r1⟩ ?_
          apply Exists.intro
          refine ⟨⟨by kernel_rfl, fun wy hw => ?_⟩, ?_⟩
          · (obtain ⟨y0, y1⟩ := HY.out wy hw; go_simp; try (first | (with_reducible rfl) | (with_reducible exact ⟨rfl, rfl⟩)))
          try simp only [Act.put, List.getElem_toArray, List.getElem_cons_succ, List.getElem_cons_zero, List.setIfInBounds_toArray, List.set_cons_succ, List.set_cons_zero]
          refine wpAnyK_ex (i := 5) rfl (by kernel_rfl) (listed' := #[true, true, true, true, true, true, false, false, false, false, false, false, false, false, false, false, false, false]) rfl (fun _ _ d _ _ h => by cases d <;> exact h) ⟨HI6.out.r0, HI6.out.r1⟩ ?_
          apply Exists.intro
          refine ⟨⟨by kernel_rfl, fun wy hw => ?_⟩, ?_⟩
          · (obtain ⟨y0, y1⟩ := HY.out wy hw; go_simp; try (first | (with_reducible rfl) | (with_reducible exact ⟨rfl, rfl⟩)))
          try simp only [Act.put, List.getElem_toArray, List.getElem_cons_succ, List.getElem_cons_zero, List.setIfInBounds_toArray, List.set_cons_succ, List.set_cons_zero]
          refine wpAnyK_ex (i := 6) rfl (by kernel_rfl) (listed' := #[true, true, true, true, true, true, true, false, false, false, false, false, false, false, false, false, false, false]) rfl (fun _ _ d _ _ h => by cases d <;> exact h) ⟨HI6.out.r0, HI6.out.r1⟩ ?_
          apply Exists.intro
          refine ⟨⟨by kernel_rfl, fun wy hw => ?_⟩, ?_⟩
          · (obtain ⟨y0, y1⟩ := HY.out wy hw; go_simp; try (first | (with_reducible rfl) | (with_reducible exact ⟨rfl, rfl⟩)))
          try simp only [Act.put, List.getElem_toArray, List.getElem_cons_succ, List.getElem_cons_zero, List.setIfInBounds_toArray, List.set_cons_succ, List.set_cons_zero]
          refine wpAnyK_ex (i := 7) rfl (by kernel_rfl) (listed' := #[true, true, true, true, true, true, true, true, false, false, false, false, false, false, false, false, false, false]) rfl (fun _ _ d _ _ h => by cases d <;> exact h) ⟨HI6.out.r0, HI6.out.r1⟩ ?_
          apply Exists.intro
          refine ⟨⟨by kernel_rfl, fun wy hw => ?_⟩, ?_⟩
          · (obtain ⟨y0, y1⟩ := HY.out wy hw; go_simp; try (first | (with_reducible rfl) | (with_reducible exact ⟨rfl, rfl⟩)))
          try simp only [Act.put, List.getElem_toArray, List.getElem_cons_succ, List.getElem_cons_zero, List.setIfInBounds_toArray, List.set_cons_succ, List.set_cons_zero]
          refine wpAnyK_ex (i := 8) rfl (by kernel_rfl) (listed' := #[true, true, true, true, true, true, true, true, true, false, false, false, false, false, false, false, false, false]) rfl (fun _ _ d _ _ h => by cases d <;> exact h) ⟨HI6.out.r0, HI6.out.r1⟩ ?_
          apply Exists.intro
          refine ⟨⟨by kernel_rfl, fun wy hw => ?_⟩, ?_⟩
          · (obtain ⟨y0, y1⟩ := HY.out wy hw; go_simp; try (first | (with_reducible rfl) | (with_reducible exact ⟨rfl, rfl⟩)))
          try simp only [Act.put, List.getElem_toArray, List.getElem_cons_succ, List.getElem_cons_zero, List.setIfInBounds_toArray, List.set_cons_succ, List.set_cons_zero]
          refine wpAnyK_fork1 9 (by kernel_rfl) ?_
          refine wpOpK_step rfl (by kernel_rfl) (listed' := #[true, true, true, true, true, true, true, true, true, true, false, false, false, false, false, false, false, false]) rfl (by kernel_rfl) (fun K hK => ?_)
          go_simp
          refine (HH.out _).mono ?_
          rintro e wz ⟨rfl, bz⟩
          have HBZ := Lib.hid bz
          have HCZ := Lib.hid (HI6.out.cb.below bz)
          have HC2Z := Lib.hid (HI6.out.c2.below bz)
          have hRz : R < w6.heap.size := by have := HI6.out.sz; omega
          have HRZ := Lib.hid (show Reads9 R s ak wz ∧ wz.frozen? ⟨R, 1, none⟩ = false from ⟨⟨(bz.cell (p := ⟨R, 0, none⟩) hRz).trans HI6.out.r0, (bz.cell (p := ⟨R, 1, none⟩) hRz).trans HI6.out.r1⟩, (bz.frozen (p := ⟨R, 1, none⟩) hRz).trans HI6.out.rz⟩)
          refine hK _ _ HRZ.out.1 ?_
          clear hK K bz hRz
          try simp only [Act.put, List.getElem_toArray, List.getElem_cons_succ, List.getElem_cons_zero, List.setIfInBounds_toArray, List.set_cons_succ, List.set_cons_zero]
          refine wpAnyK_ex (i := 10) rfl (by kernel_rfl) (listed' := #[true, true, true, true, true, true, true, true, true, true, true, false, false, false, false, false, false, false]) rfl (fun _ _ d _ _ h => by cases d <;> exact h) HRZ.out.1 ?_
          apply Exists.intro
          refine ⟨⟨by kernel_rfl, fun wy hw => ?_⟩, ?_⟩
          · (obtain ⟨y0, y1⟩ := HY.out wy hw; go_simp; try (first | (with_reducible rfl) | (with_reducible exact ⟨rfl, rfl⟩)))
          try simp only [Act.put, List.getElem_toArray, List.getElem_cons_succ, List.getElem_cons_zero, List.setIfInBounds_toArray, List.set_cons_succ, List.set_cons_zero]
          refine wpAnyK_ex (i := 11) rfl (by kernel_rfl) (listed' := #[true, true, true, true, true, true, true, true, true, true, true, true, false, false, false, false, false, false]) rfl (fun _ _ d _ _ h => by cases d <;> exact h) HRZ.out.1 ?_
          apply Exists.intro
          refine ⟨⟨by kernel_rfl, fun wy hw => ?_⟩, ?_⟩
          · (obtain ⟨y0, y1⟩ := HY.out wy hw; go_simp; try (first | (with_reducible rfl) | (with_reducible exact ⟨rfl, rfl⟩)))
          try simp only [Act.put, List.getElem_toArray, List.getElem_cons_succ, List.getElem_cons_zero, List.setIfInBounds_toArray, List.set_cons_succ, List.set_cons_zero]
          refine wpAnyK_ex (i := 12) rfl (by kernel_rfl) (listed' := #[true, true, true, true, true, true, true, true, true, true, true, true, true, false, false, false, false, false]) rfl (fun _ _ d _ _ h => by cases d <;> exact h) HRZ.out.1 ?_
          apply Exists.intro
          refine ⟨⟨by kernel_rfl, fun wy hw => ?_⟩, ?_⟩
          · (obtain ⟨y0, y1⟩ := HY.out wy hw; go_simp; try (first | (with_reducible rfl) | (with_reducible exact ⟨rfl, rfl⟩)))
          try simp only [Act.put, List.getElem_toArray, List.getElem_cons_succ, List.getElem_cons_zero, List.setIfInBounds_toArray, List.set_cons_succ, List.set_cons_zero]
          refine wpAnyK_ex (i := 13) rfl (by kernel_rfl) (listed' := #[true, true, true, true, true, true, true, true, true, true, true, true, true, true, false, false, false, false]) rfl (fun _ _ d _ _ h => by cases d <;> exact h) HRZ.out.1 ?_
          apply Exists.intro
          refine ⟨⟨by kernel_rfl, fun wy hw => ?_⟩, ?_⟩
          · (obtain ⟨y0, y1⟩ := HY.out wy hw; go_simp; try (first | (with_reducible rfl) | (with_reducible exact ⟨rfl, rfl⟩)))
          try simp only [Act.put, List.getElem_toArray, List.getElem_cons_succ, List.getElem_cons_zero, List.setIfInBounds_toArray, List.set_cons_succ, List.set_cons_zero]
          obtain ⟨k4, k4'⟩ := HCZ.out 4 (by simp)
          have k4 := (show wz.cell? ⟨w.heap.size + 1, 4, none⟩ = some (.string ⟨#[]⟩) from k4)
          refine wpAnyK_fork1 14 (by kernel_rfl) ?_
          refine wpOpK_step rfl (by kernel_rfl) (listed' := #[true, true, true, true, true, true, true, true, true, true, true, true, true, true, true, false, false, false]) rfl (by kernel_rfl) (fun K hK => ?_)
          go_simp
          have HRY := Lib.hid (show Reads9 R s ak (wz.setCell ⟨w.heap.size + 1, 4, none⟩ (.string X)) from ⟨(World.cell?_setCell_other _ _ _ _ (fun e => by injection e with e1; omega)).trans HRZ.out.1.1, (World.cell?_setCell_other _ _ _ _ (fun e => by injection e with e1; omega)).trans HRZ.out.1.2⟩)
          refine hK _ _ HRY.out ?_
          clear hK K k4 k4'
          try simp only [Act.put, List.getElem_toArray, List.getElem_cons_succ, List.getElem_cons_zero, List.setIfInBounds_toArray, List.set_cons_succ, List.set_cons_zero]
          refine wpAnyK_ex (i := 15) rfl (by kernel_rfl) (listed' := #[true, true, true, true, true, true, true, true, true, true, true, true, true, true, true, true, false, false]) rfl (fun _ _ d _ _ h => by cases d <;> exact h) HRY.out ?_
          apply Exists.intro
          refine ⟨⟨by kernel_rfl, fun wy hw => ?_⟩, ?_⟩
          · (obtain ⟨y0, y1⟩ := HY.out wy hw; go_simp; try (first | (with_reducible rfl) | (with_reducible exact ⟨rfl, rfl⟩)))
          try simp only [Act.put, List.getElem_toArray, List.getElem_cons_succ, List.getElem_cons_zero, List.setIfInBounds_toArray, List.set_cons_succ, List.set_cons_zero]
          refine wpAnyK_ex (i := 16) rfl (by kernel_rfl) (listed' := #[true, true, true, true, true, true, true, true, true, true, true, true, true, true, true, true, true, false]) rfl (fun _ _ d _ _ h => by cases d <;> exact h) HRY.out ?_
          apply Exists.intro
          refine ⟨⟨by kernel_rfl, fun wy hw => ?_⟩, ?_⟩
          · (obtain ⟨y0, y1⟩ := HY.out wy hw; go_simp; try (first | (with_reducible rfl) | (with_reducible exact ⟨rfl, rfl⟩)))
          try simp only [Act.put, List.getElem_toArray, List.getElem_cons_succ, List.getElem_cons_zero, List.setIfInBounds_toArray, List.set_cons_succ, List.set_cons_zero]
          refine wpAnyK_end (by kernel_rfl) ?_
          try simp only [pickOps, List.filterMap_cons, List.filterMap_nil, List.getElem?_toArray, List.getElem?_cons_succ, List.getElem?_cons_zero]
          have hy1 := HRY.out.2
          have hyz : (wz.setCell ⟨w.heap.size + 1, 4, none⟩ (.string X)).frozen? ⟨R, 1, none⟩ = false := by rw [World.frozen?_setCell]; exact HRZ.out.2
          obtain ⟨w8, hw8⟩ : ∃ w8, (wz.setCell ⟨w.heap.size + 1, 4, none⟩ (.string X)).setCell ⟨R, 1, none⟩ (.int .i64 (ak + 32)) = w8 := ⟨_, rfl⟩
          have HGR8 := Lib.hid (show w.grownBy w8 (some R) from by
            rw [← hw8]
            have h1 := grownBy_setC9 (p := ⟨w.heap.size + 1, 4, none⟩) (v := .string X) (grown_then9 HI6.out.gr HBZ.out) (by show w.heap.size ≤ w.heap.size + 1; omega)
            exact ⟨h1.os, h1.tape, h1.output, by simpa using h1.size, fun q hq hr => (Below.heap_setCell _ ⟨R, 1, none⟩ _ q (fun e => hr (by rw [e]))).trans (h1.block q hq hr)⟩)
          have HS8 := Lib.hid (show w8.heap.size = wz.heap.size from by rw [← hw8]; simp)
          have HCB8 := Lib.hid (show CellsAt w8 (w.heap.size + 1) [.int .i64 v0, .int .i64 v1, .slice sad k sc, .int .i64 v2, .string X] from by rw [← hw8]; exact (HCZ.out.put 4 _).far (by omega))
          have HC28 := Lib.hid (show CellsAt w8 w.heap.size [.int .i64 0, .int .i64 0, .slice none 0 0, .int .i64 0, .string ⟨#[]⟩] from by rw [← hw8]; exact (HC2Z.out.far (by omega)).far (by omega))
          have HOW8 := Lib.hid (show Own KE w8 (w.heap.size + 1 + 1 + 1 + 1) (.slice sad k sc) es from by
            have h1 := HI6.out.ow.below HBZ.out (Nat.le_refl _)
            rw [← hw8]
            exact (h1.far (fun e => by have := (h1.ge _ e).1; omega)).far (fun e => by have := (h1.ge _ e).1; omega))
          have HR8 := Lib.hid (show w8.cell? ⟨R, 0, none⟩ = some (.string s) ∧ w8.cell? ⟨R, 1, none⟩ = some (.int .i64 (ak + 32)) ∧ w8.frozen? ⟨R, 1, none⟩ = false from by
            rw [← hw8]
            exact ⟨(World.cell?_setCell_other _ _ _ _ (by simp)).trans HRY.out.1, World.cell?_setCell_same _ _ _ hy1, by rw [World.frozen?_setCell]; exact hyz⟩)
          have HVA := Lib.hid (validB_u ⟨v0, v1, v2, es, X⟩ sad sc (by show es.length ≤ maxLen; rw [← HK.out, HKN.out]; have := HN24.out; unfold maxLen; omega) (fun x hx => evB_wf9 (HI6.out.ok x hx)) w8 (HRD.out.up (below_grown9 HGR8.out (Nat.le_of_lt hR)) hRg) (rl_own8 HOW8.out))
          have HVA := Lib.hid (show Calls Tryz.prog 15 #[.agg #[.int .i64 v0, .int .i64 v1, .slice sad k sc, .int .i64 v2, .string X]] w8 fun e w' => e = .returned (.bool (btB ⟨v0, v1, v2, es, X⟩)) ∧ Below w8.heap.size w8 w' from by
            have h := HVA.out
            dsimp only at h
            rw [← HK.out] at h
            exact h)
          obtain ⟨q0, _⟩ := HCB8.out 0 (by simp)
          obtain ⟨q1, _⟩ := HCB8.out 1 (by simp)
          obtain ⟨q2, _⟩ := HCB8.out 2 (by simp)
          obtain ⟨q3, _⟩ := HCB8.out 3 (by simp)
          obtain ⟨q4, _⟩ := HCB8.out 4 (by simp)
          simp only [List.getElem_cons_zero, List.getElem_cons_succ] at q0 q1 q2 q3 q4
          go_wp2_with fail
          refine HVA.out.mono ?_
          rintro e w10 ⟨rfl, b10⟩
          have HB10 := Lib.hid b10
          have HGR10 := Lib.hid (grown_then9 HGR8.out b10)
          have HC10 := Lib.hid (HCB8.out.below b10)
          have HC210 := Lib.hid (HC28.out.below b10)
          have HOW10 := Lib.hid (HOW8.out.below b10 (Nat.le_refl _))
          have hR8 : R < w8.heap.size := by have := HS8.out; have := HBZ.out.size; have := HI6.out.sz; omega
          have HR10 := Lib.hid (show w10.cell? ⟨R, 0, none⟩ = some (.string s) ∧ w10.cell? ⟨R, 1, none⟩ = some (.int .i64 (ak + 32)) ∧ w10.frozen? ⟨R, 1, none⟩ = false from ⟨(b10.cell (p := ⟨R, 0, none⟩) hR8).trans HR8.out.1, (b10.cell (p := ⟨R, 1, none⟩) hR8).trans HR8.out.2.1, (b10.frozen (p := ⟨R, 1, none⟩) hR8).trans HR8.out.2.2⟩)
          clear b10 hw8 hy1 hyz q0 q1 q2 q3 q4 hR8
          cases hbt : btB ⟨v0, v1, v2, es, X⟩ with
          | false =>
            have HN := Lib.hid (show GV = none from by rw [HG4.out, hbt]; rfl)
            have HRN := Lib.hid (fun W => require_no W)
            clear hbt
            go_wp2_with fail
            refine (HRN.out _).mono ?_
            rintro e z2 ⟨rfl, hz⟩
            rw [hz]
            exact ⟨rfl, HGR10.out, .inr ⟨by rw [HGV.out, HN.out], rfl⟩⟩
          | true =>
            have HN := Lib.hid (show GV = some ((⟨v0, v1, v2, es, X⟩ : Bt), ak + 32) from by rw [HG4.out, hbt]; rfl)
            clear hbt
            obtain ⟨q0, _⟩ := HC10.out 0 (by simp)
            obtain ⟨q1, _⟩ := HC10.out 1 (by simp)
            obtain ⟨q2, _⟩ := HC10.out 2 (by simp)
            obtain ⟨q3, _⟩ := HC10.out 3 (by simp)
            obtain ⟨q4, _⟩ := HC10.out 4 (by simp)
            obtain ⟨t0, t0'⟩ := HC210.out 0 (by simp)
            obtain ⟨t1, t1'⟩ := HC210.out 1 (by simp)
            obtain ⟨t2, t2'⟩ := HC210.out 2 (by simp)
            obtain ⟨t3, t3'⟩ := HC210.out 3 (by simp)
            obtain ⟨t4, t4'⟩ := HC210.out 4 (by simp)
            simp only [List.getElem_cons_zero, List.getElem_cons_succ] at q0 q1 q2 q3 q4 t0 t1 t2 t3 t4
            obtain ⟨w11, hw11, K11⟩ : ∃ w11, (((((w10.setCell ⟨w.heap.size, 0, none⟩ (.int .i64 v0)).setCell ⟨w.heap.size, 1, none⟩ (.int .i64 v1)).setCell ⟨w.heap.size, 2, none⟩ (.slice sad k sc)).setCell ⟨w.heap.size, 3, none⟩ (.int .i64 v2)).setCell ⟨w.heap.size, 4, none⟩ (.string X)) = w11 ∧ CellsAt w11 w.heap.size [.int .i64 v0, .int .i64 v1, .slice sad k sc, .int .i64 v2, .string X] := ⟨_, rfl, ((((HC210.out.put 0 _).put 1 _).put 2 _).put 3 _).put 4 _⟩
            have HFIN := Lib.hid (show BatP s R a w (.returned (.agg #[.int .i64 v0, .int .i64 v1, .slice sad k sc, .int .i64 v2, .string X])) w11 from by
              have hge := fun q h => (HOW10.out.ge q h).1
              have hsz := HOW10.out.form
              refine ⟨?_, .inl ⟨⟨v0, v1, v2, es, X⟩, ak + 32, sad, k, sc, by rw [HGV.out, HN.out], rfl, HK.out, ?_, ?_, ?_, ?_, ?_, ?_⟩⟩
              · rw [← hw11]
                exact grownBy_setC9 (grownBy_setC9 (grownBy_setC9 (grownBy_setC9 (grownBy_setC9 HGR10.out (Nat.le_refl _)) (Nat.le_refl _)) (Nat.le_refl _)) (Nat.le_refl _)) (Nat.le_refl _)
              · obtain ⟨_, _, e, h⟩ := hsz
                injection e with e1 e2 e3
                omega
              · intro hn
                subst hn
                rcases HOW10.out.2 with ⟨hv, _⟩ | ⟨g, cap, cur, hv, _⟩
                · injection hv
                · injection hv with e1; cases e1
              · have h11 : Own KE w11 (w.heap.size + 1 + 1 + 1 + 1) (.slice sad k sc) es := by
                  rw [← hw11]
                  have far : ∀ (X : World) (i : Nat) (u : Value), Own KE X (w.heap.size + 1 + 1 + 1 + 1) (.slice sad k sc) es → Own KE (X.setCell ⟨w.heap.size, i, none⟩ u) (w.heap.size + 1 + 1 + 1 + 1) (.slice sad k sc) es := fun X i u h => h.far (fun e => by have := (h.ge _ e).1; omega)
                  exact far _ _ _ (far _ _ _ (far _ _ _ (far _ _ _ (far _ _ _ HOW10.out))))
                obtain ⟨ad2, c2, e, _, hr⟩ := h11.rn
                injection e with e1 e2 e3
                rw [e1]
                exact RN.base (base := w.heap.size + 1 + 1 + 1 + 1) (base' := w.heap.size) hr (by omega)
              · rw [← hw11]
                simp only [World.cell?_setCell_other _ _ _ _ (show (⟨w.heap.size, 0, none⟩ : Addr) ≠ ⟨R, 0, none⟩ from fun e => by injection e with e1; omega), World.cell?_setCell_other _ _ _ _ (show (⟨w.heap.size, 1, none⟩ : Addr) ≠ ⟨R, 0, none⟩ by simp), World.cell?_setCell_other _ _ _ _ (show (⟨w.heap.size, 2, none⟩ : Addr) ≠ ⟨R, 0, none⟩ by simp), World.cell?_setCell_other _ _ _ _ (show (⟨w.heap.size, 3, none⟩ : Addr) ≠ ⟨R, 0, none⟩ by simp), World.cell?_setCell_other _ _ _ _ (show (⟨w.heap.size, 4, none⟩ : Addr) ≠ ⟨R, 0, none⟩ by simp)]
                exact HR10.out.1
              · rw [← hw11]
                simp only [World.cell?_setCell_other _ _ _ _ (show (⟨w.heap.size, 0, none⟩ : Addr) ≠ ⟨R, 1, none⟩ by simp), World.cell?_setCell_other _ _ _ _ (show (⟨w.heap.size, 1, none⟩ : Addr) ≠ ⟨R, 1, none⟩ from fun e => by injection e with e1; omega), World.cell?_setCell_other _ _ _ _ (show (⟨w.heap.size, 2, none⟩ : Addr) ≠ ⟨R, 1, none⟩ by simp), World.cell?_setCell_other _ _ _ _ (show (⟨w.heap.size, 3, none⟩ : Addr) ≠ ⟨R, 1, none⟩ by simp), World.cell?_setCell_other _ _ _ _ (show (⟨w.heap.size, 4, none⟩ : Addr) ≠ ⟨R, 1, none⟩ by simp)]
                exact HR10.out.2.1
              · rw [← hw11]
                simp only [World.frozen?_setCell]
                exact HR10.out.2.2)
            have HRY2 := Lib.hid (fun W => require_yes W)
            go_wp2_with (go_at_call 77; refine (HRY2.out _).mono ?_; rintro e z ⟨rfl, rfl⟩)
            obtain ⟨f0, _⟩ := K11 0 (by simp)
            obtain ⟨f1, _⟩ := K11 1 (by simp)
            obtain ⟨f2, _⟩ := K11 2 (by simp)
            obtain ⟨f3, _⟩ := K11 3 (by simp)
            obtain ⟨f4, _⟩ := K11 4 (by simp)
            simp only [List.getElem_cons_zero, List.getElem_cons_succ] at f0 f1 f2 f3 f4
            exact bodyPost_ret (v := .agg #[.int .i64 v0, .int .i64 v1, .slice sad k sc, .int .i64 v2, .string X]) (by simp [results, Tryz.results57, go_sem, f0, f1, f2, f3, f4]) rfl HFIN.out
        · skip
          have HH := Lib.hid (fun W => head_no hs HI6.out.ai.1 HI6.out.ai.2 hh W)
          have HN := Lib.hid (show GV = none from by rw [HG3.out, if_neg hh])
          clear hh
          go_upto_region 9 with fail
          refine wp_region_K (C := Reads9 R s ak) [17] 17 #[false, false, false, false, false, false, false, false, false, false, false, false, false, false, false, false, false, false] (by kernel_rfl) (by kernel_rfl) (by kernel_rfl) (by rw [hw6]; exact ⟨HI6.out.r0, HI6.out.r1⟩) ?_
          rw [hw6]
          clear hw6
          refine wpAnyK_ex (i := 0) rfl (by kernel_rfl) (listed' := #[true, false, false, false, false, false, false, false, false, false, false, false, false, false, false, false, false, false]) rfl (fun _ _ d _ _ h => by cases d <;> exact h) ⟨HI6.out.r0, HI6.out.r1⟩ ?_
          apply Exists.intro
          refine ⟨⟨by kernel_rfl, fun wy hw => ?_⟩, ?_⟩
          · (obtain ⟨y0, y1⟩ := HY.out wy hw; go_simp; try (first | (with_reducible rfl) | (with_reducible exact ⟨rfl, rfl⟩)))
          try simp only [Act.put, List.getElem_toArray, List.getElem_cons_zero, List.setIfInBounds_toArray, List.set_cons_succ, List.set_cons_zero]
          refine wpAnyK_ex (i := 1) rfl (by kernel_rfl) (listed' := #[true, true, false, false, false, false, false, false, false, false, false, false, false, false, false, false, false, false]) rfl (fun _ _ d _ _ h => by cases d <;> exact h) ⟨HI6.out.r0, HI6.out.r1⟩ ?_
          apply Exists.intro
          refine ⟨⟨by kernel_rfl, fun wy hw => ?_⟩, ?_⟩
          · (obtain ⟨y0, y1⟩ := HY.out wy hw; go_simp; try (first | (with_reducible rfl) | (with_reducible exact ⟨rfl, rfl⟩)))
          try simp only [Act.put, List.getElem_toArray, List.getElem_cons_succ, List.getElem_cons_zero, List.setIfInBounds_toArray, List.set_cons_succ, List.set_cons_zero]
          refine wpAnyK_ex (i := 2) rfl (by kernel_rfl) (listed' := #[true, true, true, false, false, false, false, false, false, false, false, false, false, false, false, false, false, false]) rfl (fun _ _ d _ _ h => by cases d <;> exact h) ⟨HI6.out.r0, HI6.out.r1⟩ ?_
          apply Exists.intro
          refine ⟨⟨by kernel_rfl, fun wy hw => ?_⟩, ?_⟩
          · (obtain ⟨y0, y1⟩ := HY.out wy hw; go_simp; try (first | (with_reducible rfl) | (with_reducible exact ⟨rfl, rfl⟩)))
          try simp only [Act.put, List.getElem_toArray, List.getElem_cons_succ, List.getElem_cons_zero, List.setIfInBounds_toArray, List.set_cons_succ, List.set_cons_zero]
          refine wpAnyK_ex (i := 3) rfl (by kernel_rfl) (listed' := #[true, true, true, true, false, false, false, false, false, false, false, false, false, false, false, false, false, false]) rfl (fun _ _ d _ _ h => by cases d <;> exact h) ⟨HI6.out.r0, HI6.out.r1⟩ ?_
          apply Exists.intro
          refine ⟨⟨by kernel_rfl, fun wy hw => ?_⟩, ?_⟩
          · (obtain ⟨y0, y1⟩ := HY.out wy hw; go_simp; try (first | (with_reducible rfl) | (with_reducible exact ⟨rfl, rfl⟩)))
          try simp only [Act.put, List.getElem_toArray, List.getElem_cons_succ, List.getElem_cons_zero, List.setIfInBounds_toArray, List.set_cons_succ, List.set_cons_zero]
          refine wpAnyK_ex (i := 4) rfl (by kernel_rfl) (listed' := #[true, true, true, true, true, false, false, false, false, false, false, false, false, false, false, false, false, false]) rfl (fun _ _ d _ _ h => by cases d <;> exact h) ⟨HI6.out.r0, HI6.out.r1⟩ ?_
          apply Exists.intro
          refine ⟨⟨by kernel_rfl, fun wy hw => ?_⟩, ?_⟩
          · (obtain ⟨y0, y1⟩ := HY.out wy hw; go_simp; try (first | (with_reducible rfl) | (with_reducible exact ⟨rfl, rfl⟩)))
          try simp only [Act.put, List.getElem_toArray, List.getElem_cons_succ, List.getElem_cons_zero, List.setIfInBounds_toArray, List.set_cons_succ, List.set_cons_zero]
          refine wpAnyK_ex (i := 5) rfl (by kernel_rfl) (listed' := #[true, true, true, true, true, true, false, false, false, false, false, false, false, false, false, false, false, false]) rfl (fun _ _ d _ _ h => by cases d <;> exact h) ⟨HI6.out.r0, HI6.out.r1⟩ ?_
          apply Exists.intro
          refine ⟨⟨by kernel_rfl, fun wy hw => ?_⟩, ?_⟩
          · (obtain ⟨y0, y1⟩ := HY.out wy hw; go_simp; try (first | (with_reducible rfl) | (with_reducible exact ⟨rfl, rfl⟩)))
          try simp only [Act.put, List.getElem_toArray, List.getElem_cons_succ, List.getElem_cons_zero, List.setIfInBounds_toArray, List.set_cons_succ, List.set_cons_zero]
          refine wpAnyK_ex (i := 6) rfl (by kernel_rfl) (listed' := #[true, true, true, true, true, true, true, false, false, false, false, false, false, false, false, false, false, false]) rfl (fun _ _ d _ _ h => by cases d <;> exact h) ⟨HI6.out.r0, HI6.out.r1⟩ ?_
          apply Exists.intro
          refine ⟨⟨by kernel_rfl, fun wy hw => ?_⟩, ?_⟩
          · (obtain ⟨y0, y1⟩ := HY.out wy hw; go_simp; try (first | (with_reducible rfl) | (with_reducible exact ⟨rfl, rfl⟩)))
          try simp only [Act.put, List.getElem_toArray, List.getElem_cons_succ, List.getElem_cons_zero, List.setIfInBounds_toArray, List.set_cons_succ, List.set_cons_zero]
          refine wpAnyK_ex (i := 7) rfl (by kernel_rfl) (listed' := #[true, true, true, true, true, true, true, true, false, false, false, false, false, false, false, false, false, false]) rfl (fun _ _ d _ _ h => by cases d <;> exact h) ⟨HI6.out.r0, HI6.out.r1⟩ ?_
          apply Exists.intro
          refine ⟨⟨by kernel_rfl, fun wy hw => ?_⟩, ?_⟩
          · (obtain ⟨y0, y1⟩ := HY.out wy hw; go_simp; try (first | (with_reducible rfl) | (with_reducible exact ⟨rfl, rfl⟩)))
          try simp only [Act.put, List.getElem_toArray, List.getElem_cons_succ, List.getElem_cons_zero, List.setIfInBounds_toArray, List.set_cons_succ, List.set_cons_zero]
          refine wpAnyK_ex (i := 8) rfl (by kernel_rfl) (listed' := #[true, true, true, true, true, true, true, true, true, false, false, false, false, false, false, false, false, false]) rfl (fun _ _ d _ _ h => by cases d <;> exact h) ⟨HI6.out.r0, HI6.out.r1⟩ ?_
          apply Exists.intro
          refine ⟨⟨by kernel_rfl, fun wy hw => ?_⟩, ?_⟩
          · (obtain ⟨y0, y1⟩ := HY.out wy hw; go_simp; try (first | (with_reducible rfl) | (with_reducible exact ⟨rfl, rfl⟩)))
          try simp only [Act.put, List.getElem_toArray, List.getElem_cons_succ, List.getElem_cons_zero, List.setIfInBounds_toArray, List.set_cons_succ, List.set_cons_zero]
          refine wpAnyK_fork1 9 (by kernel_rfl) ?_
          refine wpOpK_step rfl (by kernel_rfl) (listed' := #[true, true, true, true, true, true, true, true, true, true, false, false, false, false, false, false, false, false]) rfl (by kernel_rfl) (fun K hK => ?_)
          go_simp
          refine (HH.out _).mono ?_
          rintro e wz ⟨rfl, hz⟩
          rw [hz]
          exact ⟨rfl, HI6.out.gr, .inr ⟨by rw [HGV.out, HN.out], rfl⟩⟩
end Go.Proofs.YtnpfhcnjkekhbaaGreatDoor
