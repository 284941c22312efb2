/-
  Two lists of records with one head: the mathematics, and the contracts of the law's heads and of the reference's Same.
-/
import Derived.Test.YtoaaelnmbpmbeaaDoorSides
import Derived.Lib.ConvBytes
namespace Go.Proofs.YtoaaelnmbpmbeaaDoor
open Go Go.Proofs Go.RowKit Go.Lib

def zero32 : ByteArray := ⟨#[0, 0, 0, 0, 0, 0, 0, 0, 0, 0, 0, 0, 0, 0, 0, 0, 0, 0, 0, 0, 0, 0, 0, 0, 0, 0, 0, 0, 0, 0, 0, 0]⟩
/-- The head, and the strings, of a list that is turned round. -/
def headV : List ByteArray → ByteArray
  | [] => zero32
  | x :: r => chainF (headV r) x
def headR : List ByteArray → List ByteArray
  | [] => []
  | x :: r => tagged 2 (headV r ++ x) :: headR r
theorem headV_size : ∀ r, (headV r).size = 32
  | [] => rfl
  | _ :: _ => sha_size _
theorem headR_length : ∀ r, (headR r).length = r.length
  | [] => rfl
  | _ :: r => by simp [headR, headR_length r]
theorem headR_small : ∀ r : List ByteArray, (∀ x ∈ r, x.size ≤ 1000) → ∀ y ∈ headR r, y.size ≤ 2000
  | [], _ => by intro y hy; cases hy
  | x :: r, h => by
    intro y hy
    simp only [headR] at hy
    rcases List.mem_cons.1 hy with rfl | hy
    · have := h x (by simp)
      rw [tagged_size, ByteArray.size_append, headV_size]; omega
    · exact headR_small r (fun z hz => h z (by simp [hz])) y hy
/-- The first string that has no partner. -/
def lone : List ByteArray → List ByteArray → Option ByteArray
  | [], [] => none
  | [], y :: _ => some y
  | x :: _, [] => some x
  | _ :: a, _ :: b => lone a b
theorem lone_lt : ∀ (a b : List ByteArray), a.length < b.length → lone a b = b[a.length]?
  | [], [], h => by simp at h
  | [], y :: b, _ => by simp [lone]
  | x :: a, [], h => by simp at h
  | x :: a, y :: b, h => by simp only [lone]; rw [lone_lt a b (by simpa using h)]; simp
theorem lone_gt : ∀ (a b : List ByteArray), b.length < a.length → lone a b = a[b.length]?
  | [], b, h => by simp at h
  | x :: a, [], _ => by simp [lone]
  | x :: a, y :: b, h => by simp only [lone]; rw [lone_gt a b (by simpa using h)]; simp
theorem lone_eq : ∀ (a b : List ByteArray), a.length = b.length → lone a b = none
  | [], [], _ => rfl
  | [], y :: b, h => by simp at h
  | x :: a, [], h => by simp at h
  | x :: a, y :: b, h => by simp only [lone]; exact lone_eq a b (by simpa using h)
theorem chain_binds : ∀ (a b : List ByteArray), a ≠ b → headV a = headV b → collF (headR a) (headR b) = true ∨ ∃ z, lone (headR a) (headR b) = some z ∧ sha z = zero32
  | [], [], h, _ => absurd rfl h
  | [], y :: b, _, h => .inr ⟨_, rfl, h.symm⟩
  | x :: a, [], _, h => .inr ⟨_, rfl, h⟩
  | x :: a, y :: b, hne, h => by
    simp only [headR]
    rw [collF_cons]
    by_cases hs : tagged 2 (headV a ++ x) = tagged 2 (headV b ++ y)
    · obtain ⟨h1, h2⟩ := append_inj (tagged_inj hs) (by rw [headV_size, headV_size])
      have hne' : a ≠ b := fun e => hne (by rw [e, h2])
      rcases chain_binds a b hne' h1 with hc | ⟨z, hz, hz0⟩
      · left; rw [hc, Bool.or_true]
      · right; exact ⟨z, hz, hz0⟩
    · left
      rw [Bool.or_eq_true]
      exact .inl (sha_ne hs h)

/-! ### Same -/
set_option maxHeartbeats 2000000 in
theorem same_any (a b : List ByteArray) (ad1 ad2 : Option Addr) (n1 n2 c1 c2 : Nat) (w : World) (h1 : Holds w ad1 c1 a) (h2 : Holds w ad2 c2 b) (hn1 : a.length = n1) (hn2 : b.length = n2) :
    Calls Tryd.prog 26 #[.slice ad1 n1 c1, .slice ad2 n2 c2] w fun e w' => e = .returned (.bool (decide (a = b))) ∧ Below w.heap.size w w' := by
  have hlen1 : n1 ≤ 1099511627776 := by have := h1.2.1; omega
  have hlen2 : n2 ≤ 1099511627776 := by have := h2.2.1; omega
  have H1 := Lib.hid h1; have H2 := Lib.hid h2; have N1 := Lib.hid hn1; have N2 := Lib.hid hn2
  clear h1 h2 hn1 hn2
  obtain ⟨r, hr⟩ : ∃ r, decide (a = b) = r := ⟨_, rfl⟩
  rw [hr]
  have HRR := Lib.hid hr
  clear hr
  by_cases hnn : n1 = n2
  · subst hnn
    have hz : ((n1 : Int) == (n1 : Int)) = true := by simp
    go_enter Tryd.func26, Tryd.ntmps26
    go_wp2_with fail
    go_loopw [5] (fun i wr => ∃ k : Nat, k ≤ n1 ∧ i = .int .i64 k ∧ Hid (∀ j (h1 : j < a.length) (h2 : j < b.length), j < k → a[j] = b[j]) ∧ Hid (Below w.heap.size w wr)) (fun i _ => n1 - (RowKit.intOf i).toNat)
    case atStart => exact ⟨0, by omega, rfl, (by intro j _ _ h; omega : ∀ j (h1 : j < a.length) (h2 : j < b.length), j < 0 → a[j] = b[j]), Below.refl _ _⟩
    case round =>
      obtain ⟨k, hk, rfl, hno, hb⟩ := hrel
      by_cases hlt1 : k < n1
      · have hi1 : (k : Int) < (n1 : Int) := by omega
        have hka : k < a.length := by rw [N1.out]; exact hlt1
        have hkb : k < b.length := by rw [N2.out]; exact hlt1
        obtain ⟨b1, o1, rfl, hl1, hS1⟩ := H1.out.at (by omega)
        obtain ⟨b2, o2, rfl, hl2, hS2⟩ := H2.out.at (by omega)
        have hc1 := (hb.out.cell (p := ⟨b1, o1 + k, none⟩) hl1).trans (hS1 k hka)
        have hc2 := (hb.out.cell (p := ⟨b2, o2 + k, none⟩) hl2).trans (hS2 k hkb)
        have hnext : a[k] = b[k] → ∀ j (h1 : j < a.length) (h2 : j < b.length), j < k + 1 → a[j] = b[j] := fun hc j j1 j2 hj => by
          by_cases hjk : j = k
          · subst hjk; exact hc
          · exact hno.out j j1 j2 (by omega)
        have hne : a[k] ≠ b[k] → a ≠ b := fun h e => h (by subst e; rfl)
        obtain ⟨x, hx⟩ : ∃ x, a[k] = x := ⟨_, rfl⟩
        obtain ⟨y, hy⟩ : ∃ y, b[k] = y := ⟨_, rfl⟩
        rw [hx] at hc1 hnext hne
        rw [hy] at hc2 hnext hne
        have HNX := Lib.hid hnext; have HNE := Lib.hid hne
        clear hx hy hnext hne hka hkb hS1 hS2 hl1 hl2
        by_cases hxy : x = y
        · have he1 : (x.toList == y.toList) = true := by rw [str_eq_iff, decide_eq_true hxy]
          have he2 : (x.toList != y.toList) = false := by rw [bne, he1]; rfl
          have HXY := Lib.hid hxy
          clear hxy
          go_wp2_with fail
          go_quiet (fail)
          go_wp2
          go_roundw
          case rel => exact ⟨k + 1, by omega, by go_num, HNX.out HXY.out, below_same hb.out rfl rfl rfl rfl⟩
          case measure => simp [RowKit.intOf]; omega
        · have he1 : (x.toList == y.toList) = false := by rw [str_eq_iff, decide_eq_false hxy]
          have he2 : (x.toList != y.toList) = true := by rw [bne, he1]; rfl
          have hrf : false = r := by rw [← HRR.out]; exact (decide_eq_false (HNE.out hxy)).symm
          have HRF := Lib.hid hrf
          have HXY := Lib.hid hxy
          clear hxy hrf
          go_wp2_with fail
          go_quiet (fail)
          go_wp2
          go_ret
          exact ⟨ret_bool HRF.out, below_same hb.out rfl rfl rfl rfl⟩
      · have hi1 : ¬ (k : Int) < (n1 : Int) := by omega
        have hrt : true = r := by
          rw [← HRR.out]
          exact (decide_eq_true (List.ext_getElem (N1.out.trans N2.out.symm) fun j j1 j2 => hno.out j j1 j2 (by rw [N1.out] at j1; omega))).symm
        have HRT := Lib.hid hrt
        clear hrt
        go_wp2_with fail
        go_ret
        exact ⟨ret_bool HRT.out, hb.out⟩
  · have hz : ((n1 : Int) == (n2 : Int)) = false := by rw [beq_eq_false_iff_ne]; omega
    have hz2 : ((n1 : Int) != (n2 : Int)) = true := by rw [bne, hz]; rfl
    have hrf : false = r := by rw [← HRR.out]; exact (decide_eq_false (fun e => hnn (by rw [← N1.out, ← N2.out, e]))).symm
    have HRF := Lib.hid hrf
    clear hrf
    go_enter Tryd.func26, Tryd.ntmps26
    go_wp2_with fail
    go_ret
    exact ⟨ret_bool HRF.out, Below.refl _ _⟩

/-! ### heads -/
theorem make_zero (W : World) :
    (Instr.makeSlice 43 (.int .i64 32) (.int .i64 32)).run Tryd.prog W = .ok (.slice (some ⟨W.heap.size, 0, none⟩) 32 32) (W.alloc (.cells (List.replicate 32 (Value.int .u8 0)).toArray 5)) := by
  obtain ⟨i0, hi, hz0, hz1, hz2⟩ := info_parts (show (Tryd.prog.info? 5).map (fun i => (i.zero, i.size, i.bytes)) = some (some (.int .u8 0), 1, 1) by kernel_rfl)
  have h := run_make (P := Tryd.prog) W 43 5 i0 (.int .u8 0) Tryd.underlying43 hi hz0 .i64 .i64 ((32 : Nat) : Int) ((32 : Nat) : Int) (by omega) (by omega) (by rw [hz2]; omega) (by decide)
  rw [hz1] at h
  have hm : madeCells (Value.int .u8 0).cells (32 * 1) = (List.replicate 32 (Value.int .u8 0)).toArray := by kernel_rfl
  simpa [hm] using h
theorem zero_at (i : Nat) (h : i < zero32.size) : zero32[i].toNat = 0 := by
  have : ∀ i : Fin 32, (zero32.data[i.val]'(by have := i.2; exact this)).toNat = 0 := by decide
  exact this ⟨i, h⟩
theorem conv_zero (W W' : World) (t : TypeId) (g : Nat) (h : W'.heap = (W.alloc (.cells (List.replicate 32 (Value.int .u8 0)).toArray t)).heap) (hg : g = W.heap.size) :
    (convert 43 9 (.slice (some ⟨g, 0, none⟩) 32 32)).run Tryd.prog W' = .ok (.string zero32) W' := by
  subst hg
  have hb : Bytes W' W.heap.size 0 zero32 := by
    intro i hi
    have hi2 : i < 32 := hi
    rw [zero_at i hi, Nat.zero_add, World.cell?_of_block (a := ⟨W.heap.size, i, none⟩) (w := W.alloc (.cells (List.replicate 32 (Value.int .u8 0)).toArray t)) (by rw [h]), cell_of_row _ _ i _ _ _ (heap_alloc_new W _), List.getElem?_toArray, List.getElem?_replicate, if_pos hi2]
    rfl
  exact run_convert_whole (P := Tryd.prog) W' 43 5 9 Tryd.underlying43 Tryd.underlying5 Tryd.underlying9 W.heap.size 0 zero32 hb 32

theorem take_rev (l : List ByteArray) (k : Nat) (h : k < l.length) : (l.take (k + 1)).reverse = l[k] :: (l.take k).reverse := by
  rw [List.take_succ_eq_append_getElem h]; simp

set_option maxRecDepth 100000 in
set_option maxHeartbeats 2000000 in
theorem heads_any (l : List ByteArray) (ad : Option Addr) (n cap : Nat) (w : World) (h : Holds w ad cap l) (hn : l.length = n) (hn9 : n ≤ 1000) (hs : ∀ x ∈ l, x.size ≤ 1000) (hR : Ready w) :
    Calls Tryd.prog 36 #[.slice ad n cap] w (WayPost w (headR l.reverse) (headV l.reverse)) := by
  have H := Lib.hid h; have HN := Lib.hid hn; have HS := Lib.hid hs; have HR := Lib.hid hR
  clear h hn hs hR
  have hmk := make_zero w
  have hcv := conv_zero w (w.alloc (.cells (List.replicate 32 (Value.int .u8 0)).toArray 5)) 5 w.heap.size rfl rfl
  obtain ⟨Z, hZ⟩ : ∃ Z, (List.replicate 32 (Value.int .u8 0)).toArray = Z := ⟨_, rfl⟩
  rw [hZ] at hmk hcv
  obtain ⟨z, hz⟩ : ∃ z, zero32 = z := ⟨_, rfl⟩
  rw [hz] at hcv
  have HZ := Lib.hid hz
  clear hZ hz
  go_enter Tryd.func36, Tryd.ntmps36
  go_wp2_with fail
  go_loopw [4, 5, 6] (fun hv v i wr => ∃ k : Nat, k ≤ n ∧ i = .int .i64 k ∧ hv = .string (headV (l.take k).reverse) ∧ Hid (OwnStrs wr w.heap.size v (headR (l.take k).reverse)) ∧ Hid (Below w.heap.size w wr)) (fun _ _ i _ => n - (RowKit.intOf i).toNat)
  case atStart => exact ⟨0, by omega, rfl, by rw [← HZ.out]; rfl, OwnStrs.nil _ _, (Below.refl _ _).alloc (Nat.le_refl _) _⟩
  case round =>
    obtain ⟨k, hk, rfl, rfl, hown, hb⟩ := hrel
    by_cases hlt : k < n
    · have hi1 : (k : Int) < (n : Int) := by omega
      have hkl : k < l.length := by rw [HN.out]; exact hlt
      obtain ⟨b, o, rfl, hlb, hS⟩ := H.out.at (by omega)
      have hcb := fun W (h : Below w.heap.size w W) => (h.cell (p := ⟨b, o + k, none⟩) hlb).trans (hS k hkl)
      have hxs := HS.out l[k] (List.getElem_mem _)
      have htr := take_rev l k hkl
      have hvs := headV_size (l.take k).reverse
      have hrl := headR_length (l.take k).reverse
      rw [List.length_reverse, List.length_take] at hrl
      obtain ⟨x, hx⟩ : ∃ x, l[k] = x := ⟨_, rfl⟩
      rw [hx] at hcb hxs htr
      have hV : headV (l.take (k + 1)).reverse = chainF (headV (l.take k).reverse) x := by rw [htr]; rfl
      have hR' : headR (l.take (k + 1)).reverse = tagged 2 (headV (l.take k).reverse ++ x) :: headR (l.take k).reverse := by rw [htr]; rfl
      obtain ⟨v, ev⟩ : ∃ v, headV (l.take k).reverse = v := ⟨_, rfl⟩
      obtain ⟨r, er⟩ : ∃ r, headR (l.take k).reverse = r := ⟨_, rfl⟩
      rw [ev] at hvs hV hR' ⊢
      rw [er] at hrl hR' hown
      rw [← tagged_assoc] at hR'
      have hrl2 : r.length ≤ 1000 := by omega
      have cc := fun W h => chain_any v x (by omega) (by omega) W h
      obtain ⟨nv, env⟩ : ∃ nv, chainF v x = nv := ⟨_, rfl⟩
      rw [env] at cc hV
      have hcell := hcb wr hb.out
      have HCB := Lib.hid hcb; have HV := Lib.hid hV; have HRR := Lib.hid hR'; have CC := Lib.hid cc; have HTR := Lib.hid htr
      clear hcb hV hR' cc htr hx ev er env hkl hS hlb hrl
      have hcell2 := HCB.out _ (hb.out.alloc hb.out.size (.cells #[.string (⟨#[2]⟩ ++ v ++ x)] 9))
      go_wp2_with (first
        | (at_builtin; refine walk_push_all (w0 := w) rfl _ _ rfl w.heap.size _ [_] r rfl (own_one wr w.heap.size _ hb.out.size) (hb.out.alloc hb.out.size _) (Nat.le_trans hb.out.size (by simp)) _ rfl r.length ⟨w.heap.size, OwnStrs.alloc hown.out _⟩ rfl (by simp) (by omega) ?_; intro v2 W2 ho2 hb2; have hcell3 := HCB.out W2 hb2))
      refine (CC.out _ (HR.out.below hb2)).mono ?_
      rintro e W3 ⟨rfl, hb3⟩
      go_wp2
      go_roundw
      case rel => exact ⟨k + 1, by omega, by go_num, by rw [HV.out], by rw [HRR.out]; exact OwnStrs.below ho2 hb3 (Nat.le_refl _), hb2.trans (hb3.mono hb2.size)⟩
      case measure => simp [RowKit.intOf]; omega
    · have hi1 : ¬ (k : Int) < (n : Int) := by omega
      have hkn : k = n := by omega
      have hta : l.take k = l := by rw [hkn, ← HN.out, List.take_length]
      rw [hta] at hown ⊢
      clear hta hkn
      go_wp2_with fail
      go_ret2
      exact ⟨_, rfl, hown.out, hb.out⟩
end Go.Proofs.YtoaaelnmbpmbeaaDoor
