/-
  The contract of package integer's natural.groupOfQuotient.
-/
import Derived.Test.YtildgpahacaglaaDoorQuot
namespace Go.Proofs.YtildgpahacaglaaDoor
open Go Go.Proofs Go.RowKit Go.Lib

/-- A store into a box that has just been made. -/
theorem store_new (W : World) (v u : Value) (t : TypeId) (h : v.oneCell' = true) : (store ⟨W.heap.size, 0, none⟩ v).run Tryd.prog (W.alloc (.cells #[u] t)) = .ok () (W.alloc (.cells #[v] t)) := by
  have hb := Boxed.new W t u
  rw [run_store _ _ _ _ _ h, hb.cell, hb.frozen]
  simp [World.setCell_alloc_at]
theorem min2N (w : World) (ts : Array TypeId) (t : TypeId) (x y m : Int) (hm : m = min x y) : (Builtin.min_ ts t #[.int .i64 x, .int .i64 y]).run Tryd.prog w = .ok (.int .i64 m) w := by
  subst hm
  simp [Builtin.min_, Builtin.min2]
  omega
theorem max2N (w : World) (ts : Array TypeId) (t : TypeId) (x y m : Int) (hm : m = max x y) : (Builtin.max_ ts t #[.int .i64 x, .int .i64 y]).run Tryd.prog w = .ok (.int .i64 m) w := by
  subst hm
  simp [Builtin.max_, Builtin.max2]
  omega
theorem sliceN_zero (ad : Option Addr) (n c : Nat) (hc : n ≤ c) (w : World) : (Instr.slice 49 (.slice ad n c) (some (.int .i64 0)) none none).run Tryd.prog w = .ok (.slice ad n c) w := by
  rw [run_slice_l w _ _ _ _ nat_elem .i64 _ (by omega) (by omega), nat_size]
  have e : (ad.map fun x => x.add (0 * 1)) = ad := by cases ad <;> simp [add0]
  have _ := hc
  simp only [Result.andThen, sliced, Int.toNat_zero]
  rw [e]
  simp
set_option maxRecDepth 100000 in
theorem quot_len {x d : Nat} (hx : x < d * 10000) : (grps x).length ≤ (grps d).length + 1 := by
  apply grps_length_le
  have h := (grps_length_iff (grps d).length d).1 (Nat.le_refl _)
  rw [Nat.pow_succ]
  generalize 10000 ^ (grps d).length = p at *
  omega
theorem quot_under {d cut : Nat} (hd : 0 < d) (hc : cut + 1 ≤ (grps d).length) : 0 < d / 10000 ^ cut := by
  have h0 : 0 < (grps d).length := by omega
  have h2 := canonG_ge (grps_lt d) (grps_canonG d) h0
  rw [valG_grps] at h2
  have _ := hd
  exact Nat.div_pos (Nat.le_trans (Nat.pow_le_pow_right (by decide) (by omega)) h2) (Nat.pow_pos (by decide))
theorem word_lt {y : Nat} (h : (grps y).length ≤ 4) : y < 10000000000000000 := by
  have := (grps_length_iff 4 y).1 h
  simpa using this
/-- Two operations of a drawn region, by names. -/
def hidSl1 (s : String) : Oper := { dst := some 21, op := Op.slice 49 (Operand.tmp 16) (some (Operand.tmp 20)) none none, type := 49, pos := s, after := #[{ on := 0, ground := Ground.data }, { on := 4, ground := Ground.data }], guard := none }
def hidSl2 (s : String) : Oper := { dst := some 25, op := Op.slice 49 (Operand.tmp 23) (some (Operand.tmp 24)) none none, type := 49, pos := s, after := #[{ on := 7, ground := Ground.data }, { on := 8, ground := Ground.data }], guard := none }
/-- The part of a natural behind a place. -/
theorem nat_from {W : World} {ad ad' : Option Addr} {n c x k cut : Nat} (h : NatAt W ad n c x) (hs : ∀ W l, l.length = n → HoldI W ad c l → HoldI W ad' (c - k) (l.drop k)) (hk : x / 10000 ^ k = x / 10000 ^ cut) : NatAt W ad' (n - k) (c - k) (x / 10000 ^ cut) := by
  have h1 := hs W _ h.1 h.2
  have e := grps_shift x k
  rw [hk] at e
  rw [e] at h1
  exact ⟨by rw [← e, List.length_drop, h.1], h1⟩

theorem quot_last (x d lo H : Nat) (hd : 0 < d) (hlo : lo ≤ x / d) (hH : x / d ≤ H) (hH9 : H ≤ 9999) (adx add : Option Addr) (cx cd nx nd : Nat) (w Wd : World) (h1 : NatAt w adx nx cx x) (h2 : NatAt w add nd cd d) (hnd : nd ≤ 900)
    (hb : Below w.heap.size w Wd) (hlt : w.heap.size < Wd.heap.size) (hbx : Wd.cell? ⟨w.heap.size, 0, none⟩ = some (.slice add nd cd)) :
    Calls Tryd.prog 57 #[.int .i64 ((lo : Nat) : Int), .int .i64 ((H : Nat) : Int), .func (.func 88) #[] #[.pointer (some ⟨Wd.heap.size, 0, none⟩), .pointer (some ⟨w.heap.size, 0, none⟩)]]
      (Wd.alloc (.cells #[.func (.func 46) #[.slice adx nx cx] #[]] 65)) fun e w' => e = .returned (.int .i64 ((x / d : Nat) : Int)) ∧ Below w.heap.size w w' := by
  obtain ⟨w1, hw1⟩ : ∃ w1, Wd.alloc (.cells #[.func (.func 46) #[.slice adx nx cx] #[]] 65) = w1 := ⟨_, rfl⟩
  have hb1 : Below w.heap.size w w1 := by rw [← hw1]; exact hb.alloc (by omega) _
  have hx1 : Boxed w1 Wd.heap.size 65 (.func (.func 46) #[.slice adx nx cx] #[]) := by rw [← hw1]; exact Boxed.new Wd _ _
  have hx2 : w1.cell? ⟨w.heap.size, 0, none⟩ = some (.slice add nd cd) := by
    rw [← hw1]
    exact (World.cell?_of_block (a := ⟨w.heap.size, 0, none⟩) (Below.heap_alloc Wd _ _ hlt)).trans hbx
  have hl2 : w.heap.size < w1.heap.size := by have := hx1.lt; omega
  rw [hw1]
  refine (greatest_any lo H (Nat.le_trans hlo hH) (by omega) (fun q => !decide (x < d * q)) 88 _ w1 ?_).mono ?_
  · intro W i Bf Bl hi hbW _ _ _ _ ef el
    have hbb := below_of hb1 hbW
    exact greatest1Q_any x d lo i (by omega) adx add cx cd nx nd Wd.heap.size w.heap.size Bf Bl W (h1.below hbb (Nat.le_refl _)) (h2.below hbb (Nat.le_refl _)) hnd (Nat.lt_of_lt_of_le hx1.lt hbW.size) (Nat.lt_of_lt_of_le hl2 hbW.size)
      ((hbW.cell (p := ⟨Wd.heap.size, 0, none⟩) hx1.lt).trans hx1.cell) ((hbW.cell (p := ⟨w.heap.size, 0, none⟩) hl2).trans hx2) ef el
  · rintro e w2 ⟨⟨r, hr, rfl⟩, b2⟩
    rw [quot_found hd hr hlo hH]
    exact ⟨rfl, below_of hb1 b2⟩

set_option maxRecDepth 100000 in
set_option maxHeartbeats 8000000 in
theorem quot_any (x d : Nat) (hd : 0 < d) (hx : x < d * 10000) (adx add : Option Addr) (cx cd nx nd : Nat) (w : World) (h1 : NatAt w adx nx cx x) (h2 : NatAt w add nd cd d) (hnd : nd ≤ 900) :
    Calls Tryd.prog 72 #[.slice adx nx cx, .slice add nd cd] w fun e w' => e = .returned (.int .i64 ((x / d : Nat) : Int)) ∧ Below w.heap.size w w' := by
  have hlen := quot_len hx
  rw [h1.1, h2.1] at hlen
  have hnd0 : 0 < nd := by rw [← h2.1, grps_pos (by omega)]; simp
  have hncx : nx ≤ cx := by have := h1.2.1; rw [h1.1] at this; exact this
  have hncd : nd ≤ cd := by have := h2.2.1; rw [h2.1] at this; exact this
  obtain ⟨cut, hcut⟩ : ∃ cut, nd - 3 = cut := ⟨_, rfl⟩
  obtain ⟨top, htop⟩ : ∃ t, x / 10000 ^ cut = t := ⟨_, rfl⟩
  obtain ⟨under, hunder⟩ : ∃ t, d / 10000 ^ cut = t := ⟨_, rfl⟩
  have hu0 : 0 < under := by rw [← hunder]; exact quot_under hd (by rw [h2.1]; omega)
  have hq9 : x / d ≤ 9999 := by
    have := (Nat.div_lt_iff_lt_mul hd).2 (by rw [Nat.mul_comm]; exact hx)
    omega
  obtain ⟨w1, hw1⟩ : ∃ w1, w.alloc (.cells #[.slice add nd cd] 49) = w1 := ⟨_, rfl⟩
  have hbel : Below w.heap.size w w1 := by rw [← hw1]; exact (Below.refl _ _).alloc (Nat.le_refl _) _
  have hbx : Boxed w1 w.heap.size 49 (.slice add nd cd) := by rw [← hw1]; exact Boxed.new w _ _
  have hhigh : x / d ≤ top / under := quot_high htop.symm hunder.symm (Nat.pow_pos (by decide)) hu0
  have hkeep : ∀ W, Below w1.heap.size w1 W → W.cell? ⟨w.heap.size, 0, none⟩ = some (.slice add nd cd) := fun W b => (b.cell (p := ⟨w.heap.size, 0, none⟩) hbx.lt).trans hbx.cell
  by_cases h3 : nd ≤ 3
  · obtain rfl : cut = 0 := by omega
    rw [Nat.pow_zero, Nat.div_one] at htop hunder
    subst htop hunder
    have hc2 : (nd : Int) - 4 + 1 ≤ 0 := by omega
    have hs1 := fun w => sliceN_zero adx nx cx hncx w
    have hs2 := fun w => sliceN_zero add nd cd hncd w
    have n1 := fun W (b : Below w1.heap.size w1 W) => h1.below (hbel.trans (b.mono hbel.size)) (Nat.le_refl _)
    have n2 := fun W (b : Below w1.heap.size w1 W) => h2.below (hbel.trans (b.mono hbel.size)) (Nat.le_refl _)
    have cw1 := fun W (b : Below w1.heap.size w1 W) => word_any x adx cx nx W (n1 W b) (by omega)
    have cw2 := fun W (b : Below w1.heap.size w1 W) => word_any d add cd nd W (n2 W b) (by omega)
    have htl : x < 10000000000000000 := word_lt (by rw [(n1 w1 (Below.refl _ _)).1]; omega)
    have hul : d < 10000000000000000 := word_lt (by rw [(n2 w1 (Below.refl _ _)).1]; omega)
    have hm1 := fun w' => min2N w' #[3, 3] 3 0 (nx : Int) 0 (by omega)
    have hlow : x / d ≤ x / d := Nat.le_refl _
    obtain ⟨lo, hlo⟩ : ∃ l, x / d = l := ⟨_, rfl⟩
    obtain ⟨hi, hhi⟩ : ∃ l, x / d = l := ⟨_, rfl⟩
    rw [hlo] at hlow
    rw [hhi] at hhigh
    have CW1 := Lib.hid cw1; have CW2 := Lib.hid cw2; have HW := Lib.hid hw1; have HB := Lib.hid hbel; have HBX := Lib.hid hbx; have HK := Lib.hid hkeep; have HH1 := Lib.hid h1; have HH2 := Lib.hid h2
    clear cw1 cw2 hw1 hbel hbx hkeep h1 h2 n1 n2 hx hlen
    obtain ⟨H, hH⟩ : ∃ l, min hi 9999 = l := ⟨_, rfl⟩
    have hHl : lo ≤ H ∧ H ≤ 9999 := by omega
    have hHq : x / d ≤ H := by omega
    have hmA := fun w' => min2N w' #[3, 3] 3 0 1 0 (by omega)
    have hmB := fun w' => min2N w' #[3, 3] 3 (hi : Int) 9999 (H : Int) (by omega)
    have hq1 : Int.tdiv (x : Int) (d : Int) = (lo : Int) := by rw [Int.tdiv_eq_ediv_of_nonneg (by omega), ← hlo]; simp
    have hq2 : Int.tdiv (x : Int) (d : Int) = (hi : Int) := by rw [Int.tdiv_eq_ediv_of_nonneg (by omega), ← hhi]; simp
    have hlob : lo ≤ 9999 := by omega
    have hhib : hi < 10000000000000000 := by rw [← hhi]; exact Nat.lt_of_le_of_lt (Nat.div_le_self _ _) htl
    have hw6 : IntKind.i64.wrap (lo : Int) = (lo : Int) := IntWalk.i64_in _ (by omega)
    have hw7 : IntKind.i64.wrap (hi : Int) = (hi : Int) := IntWalk.i64_in _ (by omega)
    have hw5 : IntKind.i64.wrap ((d : Int) + 0) = (d : Int) := by rw [Int.add_zero]; exact IntWalk.i64_in _ (by omega)
    have hw8 : IntKind.i64.wrap (d : Int) = (d : Int) := IntWalk.i64_in _ (by omega)
    have hz1 : (d : Int) ≠ 0 := by omega
    have hstn := fun W u => store_new W (.func (.func 46) #[.slice adx nx cx] #[]) u 65 rfl
    clear hhi hH
    have HLQ := Lib.hid hlo.symm
    clear hlo
    go_enter Tryd.func72, Tryd.ntmps72
    go_wp2_with fail
    rw [HW.out]
    go_region_held3 (fun W => W.cell? ⟨w.heap.size, 0, none⟩ = some (.slice add nd cd))
      (first | exact HK.out _ ⟨rfl, rfl, rfl, Nat.le_refl _, fun _ _ => rfl⟩ | exact HK.out _ ⟨hb1.os, hb1.tape, hb1.output, hb1.size, hb1.block⟩ | exact HK.out _ ⟨hb2.os, hb2.tape, hb2.output, hb2.size, hb2.block⟩)
      (first | (go_at_call 74; (with_reducible refine (CW1.out _ ?_).mono ?_); (first | exact ⟨rfl, rfl, rfl, Nat.le_refl _, fun _ _ => rfl⟩ | exact ⟨hb2.os, hb2.tape, hb2.output, hb2.size, hb2.block⟩); rintro e W1 ⟨rfl, hb1'⟩; (first | (have hb1 : Below w1.heap.size w1 W1 := ⟨hb1'.os, hb1'.tape, hb1'.output, hb1'.size, hb1'.block⟩) | (have hb1 : Below w1.heap.size w1 W1 := below_of hb2 ⟨hb1'.os, hb1'.tape, hb1'.output, hb1'.size, hb1'.block⟩)))
              | (go_at_call 74; (with_reducible refine (CW2.out _ ?_).mono ?_); (first | exact ⟨rfl, rfl, rfl, Nat.le_refl _, fun _ _ => rfl⟩ | exact ⟨hb1.os, hb1.tape, hb1.output, hb1.size, hb1.block⟩); rintro e W2 ⟨rfl, hb2'⟩; have hb2 : Below w1.heap.size w1 W2 := below_of hb1 ⟨hb2'.os, hb2'.tape, hb2'.output, hb2'.size, hb2'.block⟩))
    all_goals (
      go_wp2_with fail
      go_quiet (fail)
      have hbd := below_drewN hb2 nq
      generalize W2.drewN nq = Wd at hbd ⊢
      have HBD := Lib.hid hbd
      clear hbd
      go_wp2_with fail
      refine (quot_last x d lo lo hd (by have := HLQ.out; omega) (by have := HLQ.out; omega) (by omega) adx add cx cd nx nd w _ HH1.out HH2.out hnd (below_of HB.out HBD.out) (Nat.lt_of_lt_of_le HBX.out.lt HBD.out.size) (HK.out _ HBD.out)).mono ?_
      rintro e w9 ⟨rfl, b9⟩
      go_wp2
      go_ret
      exact ⟨rfl, b9⟩)
  · by_cases hcn : cut ≤ nx
    · have hc1 : (nd : Int) - 4 + 1 = (cut : Int) := by omega
      have hc2 : (0 : Int) < (cut : Int) := by omega
      have hc3 : (1 : Int) ≤ (cut : Int) := by omega
      obtain ⟨add', hs2, hh2, _⟩ := sliceN_from add nd cd cut (cut : Int) rfl (by omega) hncd
      have n2 := fun W (b : Below w1.heap.size w1 W) => nat_from (h2.below (hbel.trans (b.mono hbel.size)) (Nat.le_refl _)) hh2 (k := cut) (cut := cut) rfl
      rw [hunder] at n2
      have cw2 := fun W (b : Below w1.heap.size w1 W) => word_any under add' (cd - cut) (nd - cut) W (n2 W b) (by omega)
      have hul : under < 10000000000000000 := word_lt (by rw [(n2 w1 (Below.refl _ _)).1]; omega)
      have hm1 := fun w' => min2N w' #[3, 3] 3 (cut : Int) (nx : Int) (cut : Int) (by omega)
      obtain ⟨adx', hs1, hh1, _⟩ := sliceN_from adx nx cx cut (cut : Int) rfl (by omega) hncx
      have hkk : x / 10000 ^ cut = x / 10000 ^ cut := rfl
      have n1 := fun W (b : Below w1.heap.size w1 W) => nat_from (h1.below (hbel.trans (b.mono hbel.size)) (Nat.le_refl _)) hh1 (k := cut) (cut := cut) hkk
      rw [htop] at n1
      have cw1 := fun W (b : Below w1.heap.size w1 W) => word_any top adx' (cx - cut) (nx - cut) W (n1 W b) (by omega)
      have htl : top < 10000000000000000 := word_lt (by rw [(n1 w1 (Below.refl _ _)).1]; omega)
      have hlow : top / (under + 1) ≤ x / d := quot_low (s := 1) htop.symm hunder.symm hd (Nat.pow_pos (by decide)) (.inl rfl)
      obtain ⟨lo, hlo⟩ : ∃ l, top / (under + 1) = l := ⟨_, rfl⟩
      obtain ⟨hi, hhi⟩ : ∃ l, top / under = l := ⟨_, rfl⟩
      rw [hlo] at hlow
      rw [hhi] at hhigh
      have CW1 := Lib.hid cw1; have CW2 := Lib.hid cw2; have HW := Lib.hid hw1; have HB := Lib.hid hbel; have HBX := Lib.hid hbx; have HK := Lib.hid hkeep; have HH1 := Lib.hid h1; have HH2 := Lib.hid h2
      clear cw1 cw2 hw1 hbel hbx hkeep h1 h2 n1 n2 hx hlen hh1 hh2 hkk htop hunder hcut
      obtain ⟨H, hH⟩ : ∃ l, min hi 9999 = l := ⟨_, rfl⟩
      have hHl : lo ≤ H ∧ H ≤ 9999 := by omega
      have hHq : x / d ≤ H := by omega
      have hmA := fun w' => min2N w' #[3, 3] 3 (cut : Int) 1 1 (by omega)
      have hmB := fun w' => min2N w' #[3, 3] 3 (hi : Int) 9999 (H : Int) (by omega)
      have hq1 : Int.tdiv (top : Int) ((under : Int) + 1) = (lo : Int) := by rw [Int.tdiv_eq_ediv_of_nonneg (by omega), ← hlo]; simp
      have hq2 : Int.tdiv (top : Int) (under : Int) = (hi : Int) := by rw [Int.tdiv_eq_ediv_of_nonneg (by omega), ← hhi]; simp
      have hlob : lo ≤ 9999 := by omega
      have hhib : hi < 10000000000000000 := by rw [← hhi]; exact Nat.lt_of_le_of_lt (Nat.div_le_self _ _) htl
      have hw6 : IntKind.i64.wrap (lo : Int) = (lo : Int) := IntWalk.i64_in _ (by omega)
      have hw7 : IntKind.i64.wrap (hi : Int) = (hi : Int) := IntWalk.i64_in _ (by omega)
      have hw5 : IntKind.i64.wrap ((under : Int) + 1) = (under : Int) + 1 := IntWalk.i64_in _ (by omega)
      have hz1 : (under : Int) ≠ 0 := by omega
      have hz2 : (under : Int) + 1 ≠ 0 := by omega
      have hstn := fun W u => store_new W (.func (.func 46) #[.slice adx nx cx] #[]) u 65 rfl
      clear hhi hH
      clear hlo
      go_enter Tryd.func72, Tryd.ntmps72
      go_wp2_with fail
      rw [HW.out]
      go_region_held3 (fun W => W.cell? ⟨w.heap.size, 0, none⟩ = some (.slice add nd cd))
        (first | exact HK.out _ ⟨rfl, rfl, rfl, Nat.le_refl _, fun _ _ => rfl⟩ | exact HK.out _ ⟨hb1.os, hb1.tape, hb1.output, hb1.size, hb1.block⟩ | exact HK.out _ ⟨hb2.os, hb2.tape, hb2.output, hb2.size, hb2.block⟩)
        (first | (go_at_call 74; (with_reducible refine (CW1.out _ ?_).mono ?_); (first | exact ⟨rfl, rfl, rfl, Nat.le_refl _, fun _ _ => rfl⟩ | exact ⟨hb2.os, hb2.tape, hb2.output, hb2.size, hb2.block⟩); rintro e W1 ⟨rfl, hb1'⟩; (first | (have hb1 : Below w1.heap.size w1 W1 := ⟨hb1'.os, hb1'.tape, hb1'.output, hb1'.size, hb1'.block⟩) | (have hb1 : Below w1.heap.size w1 W1 := below_of hb2 ⟨hb1'.os, hb1'.tape, hb1'.output, hb1'.size, hb1'.block⟩)))
                | (go_at_call 74; (with_reducible refine (CW2.out _ ?_).mono ?_); (first | exact ⟨rfl, rfl, rfl, Nat.le_refl _, fun _ _ => rfl⟩ | exact ⟨hb1.os, hb1.tape, hb1.output, hb1.size, hb1.block⟩); rintro e W2 ⟨rfl, hb2'⟩; have hb2 : Below w1.heap.size w1 W2 := below_of hb1 ⟨hb2'.os, hb2'.tape, hb2'.output, hb2'.size, hb2'.block⟩))
      all_goals (
        go_wp2_with fail
        go_quiet (fail)
        have hbd := below_drewN hb2 nq
        generalize W2.drewN nq = Wd at hbd ⊢
        have HBD := Lib.hid hbd
        clear hbd
        go_wp2_with fail
        refine (quot_last x d lo H hd (by omega) (by omega) (by omega) adx add cx cd nx nd w _ HH1.out HH2.out hnd (below_of HB.out HBD.out) (Nat.lt_of_lt_of_le HBX.out.lt HBD.out.size) (HK.out _ HBD.out)).mono ?_
        rintro e w9 ⟨rfl, b9⟩
        go_wp2
        go_ret
        exact ⟨rfl, b9⟩)
    · have hc1 : (nd : Int) - 4 + 1 = (cut : Int) := by omega
      have hc2 : (0 : Int) < (cut : Int) := by omega
      have hc3 : (1 : Int) ≤ (cut : Int) := by omega
      obtain ⟨add', hs2, hh2, _⟩ := sliceN_from add nd cd cut (cut : Int) rfl (by omega) hncd
      have n2 := fun W (b : Below w1.heap.size w1 W) => nat_from (h2.below (hbel.trans (b.mono hbel.size)) (Nat.le_refl _)) hh2 (k := cut) (cut := cut) rfl
      rw [hunder] at n2
      have cw2 := fun W (b : Below w1.heap.size w1 W) => word_any under add' (cd - cut) (nd - cut) W (n2 W b) (by omega)
      have hul : under < 10000000000000000 := word_lt (by rw [(n2 w1 (Below.refl _ _)).1]; omega)
      have hm1 := fun w' => min2N w' #[3, 3] 3 (cut : Int) (nx : Int) (nx : Int) (by omega)
      obtain ⟨adx', hs1, hh1, _⟩ := sliceN_from adx nx cx nx (nx : Int) rfl (by omega) hncx
      have hxl := (grps_length_iff nx x).1 (by rw [h1.1]; exact Nat.le_refl _)
      have hkk : x / 10000 ^ nx = x / 10000 ^ cut := by rw [Nat.div_eq_of_lt hxl, Nat.div_eq_of_lt (Nat.lt_of_lt_of_le hxl (Nat.pow_le_pow_right (by decide) (by omega)))]
      have n1 := fun W (b : Below w1.heap.size w1 W) => nat_from (h1.below (hbel.trans (b.mono hbel.size)) (Nat.le_refl _)) hh1 (k := nx) (cut := cut) hkk
      rw [htop] at n1
      rw [Nat.sub_self] at n1
      have cw1 := fun W (b : Below w1.heap.size w1 W) => word_any top adx' (cx - nx) 0 W (n1 W b) (by omega)
      have htl : top < 10000000000000000 := word_lt (by rw [(n1 w1 (Below.refl _ _)).1]; omega)
      have hlow : top / (under + 1) ≤ x / d := quot_low (s := 1) htop.symm hunder.symm hd (Nat.pow_pos (by decide)) (.inl rfl)
      obtain ⟨lo, hlo⟩ : ∃ l, top / (under + 1) = l := ⟨_, rfl⟩
      obtain ⟨hi, hhi⟩ : ∃ l, top / under = l := ⟨_, rfl⟩
      rw [hlo] at hlow
      rw [hhi] at hhigh
      have CW1 := Lib.hid cw1; have CW2 := Lib.hid cw2; have HW := Lib.hid hw1; have HB := Lib.hid hbel; have HBX := Lib.hid hbx; have HK := Lib.hid hkeep; have HH1 := Lib.hid h1; have HH2 := Lib.hid h2
      clear cw1 cw2 hw1 hbel hbx hkeep h1 h2 n1 n2 hx hlen hh1 hh2 hkk htop hunder hcut
      obtain ⟨H, hH⟩ : ∃ l, min hi 9999 = l := ⟨_, rfl⟩
      have hHl : lo ≤ H ∧ H ≤ 9999 := by omega
      have hHq : x / d ≤ H := by omega
      have hmA := fun w' => min2N w' #[3, 3] 3 (cut : Int) 1 1 (by omega)
      have hmB := fun w' => min2N w' #[3, 3] 3 (hi : Int) 9999 (H : Int) (by omega)
      have hq1 : Int.tdiv (top : Int) ((under : Int) + 1) = (lo : Int) := by rw [Int.tdiv_eq_ediv_of_nonneg (by omega), ← hlo]; simp
      have hq2 : Int.tdiv (top : Int) (under : Int) = (hi : Int) := by rw [Int.tdiv_eq_ediv_of_nonneg (by omega), ← hhi]; simp
      have hlob : lo ≤ 9999 := by omega
      have hhib : hi < 10000000000000000 := by rw [← hhi]; exact Nat.lt_of_le_of_lt (Nat.div_le_self _ _) htl
      have hw6 : IntKind.i64.wrap (lo : Int) = (lo : Int) := IntWalk.i64_in _ (by omega)
      have hw7 : IntKind.i64.wrap (hi : Int) = (hi : Int) := IntWalk.i64_in _ (by omega)
      have hw5 : IntKind.i64.wrap ((under : Int) + 1) = (under : Int) + 1 := IntWalk.i64_in _ (by omega)
      have hz1 : (under : Int) ≠ 0 := by omega
      have hz2 : (under : Int) + 1 ≠ 0 := by omega
      have hstn := fun W u => store_new W (.func (.func 46) #[.slice adx nx cx] #[]) u 65 rfl
      clear hhi hH
      clear hlo
      go_enter Tryd.func72, Tryd.ntmps72
      go_wp2_with fail
      rw [HW.out]
      go_region_held3 (fun W => W.cell? ⟨w.heap.size, 0, none⟩ = some (.slice add nd cd))
        (first | exact HK.out _ ⟨rfl, rfl, rfl, Nat.le_refl _, fun _ _ => rfl⟩ | exact HK.out _ ⟨hb1.os, hb1.tape, hb1.output, hb1.size, hb1.block⟩ | exact HK.out _ ⟨hb2.os, hb2.tape, hb2.output, hb2.size, hb2.block⟩)
        (first | (go_at_call 74; (with_reducible refine (CW1.out _ ?_).mono ?_); (first | exact ⟨rfl, rfl, rfl, Nat.le_refl _, fun _ _ => rfl⟩ | exact ⟨hb2.os, hb2.tape, hb2.output, hb2.size, hb2.block⟩); rintro e W1 ⟨rfl, hb1'⟩; (first | (have hb1 : Below w1.heap.size w1 W1 := ⟨hb1'.os, hb1'.tape, hb1'.output, hb1'.size, hb1'.block⟩) | (have hb1 : Below w1.heap.size w1 W1 := below_of hb2 ⟨hb1'.os, hb1'.tape, hb1'.output, hb1'.size, hb1'.block⟩)))
                | (go_at_call 74; (with_reducible refine (CW2.out _ ?_).mono ?_); (first | exact ⟨rfl, rfl, rfl, Nat.le_refl _, fun _ _ => rfl⟩ | exact ⟨hb1.os, hb1.tape, hb1.output, hb1.size, hb1.block⟩); rintro e W2 ⟨rfl, hb2'⟩; have hb2 : Below w1.heap.size w1 W2 := below_of hb1 ⟨hb2'.os, hb2'.tape, hb2'.output, hb2'.size, hb2'.block⟩))
      all_goals (
        go_wp2_with fail
        go_quiet (fail)
        have hbd := below_drewN hb2 nq
        generalize W2.drewN nq = Wd at hbd ⊢
        have HBD := Lib.hid hbd
        clear hbd
        go_wp2_with fail
        refine (quot_last x d lo H hd (by omega) (by omega) (by omega) adx add cx cd nx nd w _ HH1.out HH2.out hnd (below_of HB.out HBD.out) (Nat.lt_of_lt_of_le HBX.out.lt HBD.out.size) (HK.out _ HBD.out)).mono ?_
        rintro e w9 ⟨rfl, b9⟩
        go_wp2
        go_ret
        exact ⟨rfl, b9⟩)
end Go.Proofs.YtildgpahacaglaaDoor
