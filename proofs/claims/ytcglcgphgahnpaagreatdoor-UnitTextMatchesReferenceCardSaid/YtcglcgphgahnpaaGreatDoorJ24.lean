/-
  The contracts of the program's Print and Parse. Facts of sums, differences, products and quotients as texts: what RationalField compares. Plain mathematics of layer 5: quantities, what the operations answer, and the rules that they follow. The contracts of the laws' us and cut. The contracts of package unit: the four operations and Compare. The contracts of the reference of layer 5: which units, fractions and quantities are valid. The contracts of the reference of layer 5: part, Print. The contracts of package unit: term, and Print. The contract of the reference of layer 5: begins, which reads one part of a unit. The contracts of the reference of layer 5: the operations. The contract of the reference of layer 5: Parse. The contracts of what package unit's Parse calls: strings.Cut at a space, strings.CutPrefix of any prefix, and the function that takes a word's part off the rest. The contract of the function that takes a word's part off the rest of a text, in package unit's Parse. The contract of package unit's Parse. The contracts of the reference of layer 5: pick and Made.
-/
import Derived.Test.YtcglcgphgahnpaaGreatDoorJ09
import Derived.Test.YtcglcgphgahnpaaGreatDoorJ22
set_option maxRecDepth 100000
set_option maxHeartbeats 16000000
namespace Go.Proofs.YtcglcgphgahnpaaGreatDoor
open Go Go.Proofs Go.RowKit Go.Lib
theorem index_slash (s : ByteArray) : Lib.indexByte s.data.toList 47 = if slashAt s < s.size then (slashAt s : Int) else -1 := by
 have key : ∀ l : List UInt8, Lib.indexByte l 47 = if (l.map UInt8.toNat).findIdx (· == 47) < l.length then ((l.map UInt8.toNat).findIdx (· == 47) : Int) else -1 := by
  intro l
  induction l with
  | nil => rfl
  | cons b l ih =>
   rw [Lib.indexByte, List.map_cons, List.findIdx_cons]
   have hb : (b.toNat == 47) = (b == 47) := by
    rw [Bool.eq_iff_iff, beq_iff_eq, beq_iff_eq]
    exact ⟨fun e => UInt8.toNat_inj.1 e, fun e => by rw [e]; rfl⟩
   rw [hb]
   cases b == 47 with
   | true => simp
   | false =>
    simp only [cond_false, Bool.false_eq_true, if_false]
    generalize (l.map UInt8.toNat).findIdx (· == 47) = F at *
    by_cases h : F < l.length
    · rw [if_pos h] at ih
      have n1 : ((F : Int) == -1) = false := by rw [beq_eq_false_iff_ne]; omega
      rw [ih, n1, if_neg (by decide), if_pos (by rw [List.length_cons]; omega)]
      omega
    rw [if_neg h] at ih
    rw [ih, if_pos (by decide), if_neg (by rw [List.length_cons]; omega)]
 have := key s.data.toList
 rw [this]
 unfold slashAt bytesL
 rw [show s.data.toList.length = s.size by simp]
theorem slice_to (s : ByteArray) (k : Nat) (h : k ≤ s.size) (w : World) : (Instr.slice 9 (.string s) none (some (.int .i64 (k : Int))) none).run Tryz.prog w = .ok (.string (s.extract 0 k)) w := by
 have := run_slice_string_h (P := Tryz.prog) w 9 s Tryz.underlying9 .i64 (k : Int) (by omega) (by omega)
 simpa using this
theorem slice_behind (s : ByteArray) (k : Nat) (h : k + 1 ≤ s.size) (w : World) : (Instr.slice 9 (.string s) (some (.int .i64 ((k : Int) + 1))) none none).run Tryz.prog w = .ok (.string (s.extract (k + 1) s.size)) w :=
 slice_from Tryz.prog 9 Tryz.underlying9 s (k + 1) h _ rfl w
def cutA (s : ByteArray) : ByteArray := if slashAt s < s.size then s.extract 0 (slashAt s) else s
def cutB (s : ByteArray) : ByteArray := if slashAt s < s.size then s.extract (slashAt s + 1) s.size else ByteArray.empty
def cutF (s : ByteArray) : Bool := decide (slashAt s < s.size)
theorem litcut_any (s : ByteArray) (hs : s.size ≤ 1099511627776) (w : World) :
 Calls Tryz.prog 104 #[.string s, .string ⟨#[47]⟩] w fun e w' => e = .returned (.tuple #[.string (cutA s), .string (cutB s), .bool (cutF s)]) ∧ ∃ n, w' = w.drewN n := by
 have ci := fun W => stringslite_Index_one s 47 W
 rw [index_slash] at ci
 unfold cutA cutB cutF
 by_cases h : slashAt s < s.size
 · rw [if_pos h] at ci
   rw [if_pos h, if_pos h, decide_eq_true h]
   generalize slashAt s = k at *
   have h0 : (0 : Int) ≤ (k : Int) := by omega
   have s1 := fun W => slice_to s k (by omega) W
   have s2 := fun W => slice_behind s k (by omega) W
   have hw : IntKind.i64.wrap ((k : Int) + 1) = (k : Int) + 1 := IntWalk.i64_in _ (by omega)
   generalize s.extract 0 k = A at *
   generalize s.extract (k + 1) s.size = B at *
   have CI := hid ci
   clear ci h hs
   go_enter Tryz.func104, Tryz.ntmps104
   go_wp2_with fail
   refine (CI.out _).mono ?_
   rintro e w1 ⟨rfl, rfl⟩
   go_wp2_with fail
   go_quiet (fail)
   go_wp2
   go_ret3
   exact ⟨rfl, _, rfl⟩
 rw [if_neg h] at ci
 rw [if_neg h, if_neg h, decide_eq_false h]
 have CI := hid ci
 clear ci h hs
 go_enter Tryz.func104, Tryz.ntmps104
 go_wp2_with fail
 refine (CI.out _).mono ?_
 rintro e w1 ⟨rfl, rfl⟩
 go_wp2
 go_ret3
 exact ⟨rfl, 0, rfl⟩
theorem slashcut_any (s : ByteArray) (hs : s.size ≤ 1099511627776) (w : World) :
 Calls Tryz.prog 69 #[.string s, .string ⟨#[47]⟩] w fun e w' => e = .returned (.tuple #[.string (cutA s), .string (cutB s), .bool (cutF s)]) ∧ Below w.heap.size w w' := by
 have cl := fun W => litcut_any s hs W
 generalize cutA s = A at *
 generalize cutB s = B at *
 generalize cutF s = F at *
 have CL := hid cl
 clear cl hs
 go_enter Tryz.func69, Tryz.ntmps69
 go_wp2_with fail
 refine (CL.out _).mono ?_
 rintro e w1 ⟨rfl, n, rfl⟩
 go_wp2
 go_ret3
 exact ⟨rfl, below_drewN (Below.refl _ _) n⟩
theorem clone_any (s : ByteArray) (hs : s.size ≤ 1099511627776) (w : World) :
 Calls Tryz.prog 102 #[.string s] w fun e w' => e = .returned (.string s) ∧ Below w.heap.size w w' := by
 have cl := fun W => stringslite_Clone s W (by omega)
 have CL := hid cl
 clear cl hs
 go_enter Tryz.func102, Tryz.ntmps102
 go_wp2_with fail
 refine (CL.out _).mono ?_
 rintro e w1 ⟨rfl, b1⟩
 go_wp2
 go_ret
 exact ⟨rfl, b1⟩
theorem print_q (n d : ByteArray) (hn : n.size ≤ 1099511627776) (hd : d.size ≤ 1099511627776) (w : World) (hR : Ready w) :
 Calls Tryz.prog 65 #[.agg #[.string n, .string d]] w fun e w' => e = .returned (.string (printB n d)) ∧ Below w.heap.size w w' := by
 obtain ⟨W0, hW0, b0, hcc⟩ := box_one w n d
 have HW := hid hW0; have HC := hid hcc; have B0 := hid b0
 have HR := hid (hR.below b0)
 have P0 := hid (Below.refl W0.heap.size W0)
 clear hW0 hcc b0
 clear hR
 have va := fun W (h : Ready W) => valid_q n d hn hd W h
 have cl := fun W => clone_any n hn W
 unfold printB
 have h1 : (d.toList == (⟨#[49]⟩ : ByteArray).toList) = decide (d = ⟨#[49]⟩) := by rw [str_eq_iff]
 rw [list49] at h1
 cases hv : validQ n d with
 | false =>
  rw [hv] at va
  rw [if_neg (by decide)]
  have VA := hid va
  clear va hv h1 cl
  go_enter Tryz.func65, Tryz.ntmps65
  obtain ⟨ca0, cb0, cc0, cd0⟩ := HC.out _ (Below.refl _ _)
  go_wp2_with (rw [HW.out])
  refine (VA.out _ (HR.out.below P0.out)).mono ?_
  rintro e w1 ⟨rfl, b1⟩
  have P1 := hid (below_up P0.out b1)
  obtain ⟨ca1, cb1, cc1, cd1⟩ := HC.out _ P1.out
  clear b1 P0 ca0 cb0 cc0 cd0 
  go_wp2
  go_ret
  exact ⟨rfl, below_up B0.out P1.out⟩
 | true =>
  rw [hv] at va
  rw [if_pos rfl]
  obtain ⟨v1, v2, _, _⟩ := validQ_parts hv
  have l1 := len_le v1
  have l2 := len_le v2
  have VA := hid va; have CL := hid cl
  clear va cl hv v1 v2 hn hd
  by_cases hd1 : d = ⟨#[49]⟩
  · rw [decide_eq_true hd1] at h1
    rw [if_pos hd1]
    clear hd1
    go_enter Tryz.func65, Tryz.ntmps65
    obtain ⟨ca0, cb0, cc0, cd0⟩ := HC.out _ (Below.refl _ _)
    go_wp2_with (rw [HW.out])
    refine (VA.out _ (HR.out.below P0.out)).mono ?_
    rintro e w1 ⟨rfl, b1⟩
    have P1 := hid (below_up P0.out b1)
    obtain ⟨ca1, cb1, cc1, cd1⟩ := HC.out _ P1.out
    clear b1 P0 ca0 cb0 cc0 cd0 
    go_wp2_with fail
    refine (CL.out _).mono ?_
    rintro e w2 ⟨rfl, b2⟩
    have P2 := hid (below_up P1.out b2)
    obtain ⟨ca2, cb2, cc2, cd2⟩ := HC.out _ P2.out
    clear b2 P1 ca1 cb1 cc1 cd1 
    go_wp2
    go_ret
    exact ⟨rfl, below_up B0.out P2.out⟩
  rw [decide_eq_false hd1] at h1
  rw [if_neg hd1]
  clear hd1
  go_enter Tryz.func65, Tryz.ntmps65
  obtain ⟨ca0, cb0, cc0, cd0⟩ := HC.out _ (Below.refl _ _)
  go_wp2_with (rw [HW.out])
  refine (VA.out _ (HR.out.below P0.out)).mono ?_
  rintro e w1 ⟨rfl, b1⟩
  have P1 := hid (below_up P0.out b1)
  obtain ⟨ca1, cb1, cc1, cd1⟩ := HC.out _ P1.out
  clear b1 P0 ca0 cb0 cc0 cd0 
  go_wp2
  go_ret
  exact ⟨rfl, below_up B0.out P1.out⟩
def parN (s : ByteArray) : ByteArray := if parseB s then cutN s else ByteArray.empty
def parD (s : ByteArray) : ByteArray := if parseB s then cutD s else ByteArray.empty
def parE (s : ByteArray) : Int := if parseB s then 0 else 40
theorem slash_split {s : ByteArray} (h : slashAt s < s.size) : s.extract 0 (slashAt s) ++ ⟨#[47]⟩ ++ s.extract (slashAt s + 1) s.size = s := by
 apply bytesL_inj
 rw [bytesL_append, bytesL_append]
 have hx : (bytesL s)[slashAt s]'(by rw [bytesL_length]; exact h) = 47 := by
  have := List.findIdx_getElem (xs := bytesL s) (p := (· == 47)) (w := by rw [bytesL_length]; exact h)
  simp at this
  exact this
 have e1 : bytesL (s.extract 0 (slashAt s)) = (bytesL s).take (slashAt s) := by
  unfold bytesL
  rw [ByteArray.data_extract, Array.toList_extract, List.extract_eq_take_drop]
  simp
 have e2 : bytesL (s.extract (slashAt s + 1) s.size) = (bytesL s).drop (slashAt s + 1) := by
  unfold bytesL
  rw [ByteArray.data_extract, Array.toList_extract, List.extract_eq_take_drop, ← List.map_drop, List.take_of_length_le (by simp)]
 rw [e1, e2, show bytesL (⟨#[47]⟩ : ByteArray) = [47] from rfl, List.append_assoc]
 have : [47] ++ (bytesL s).drop (slashAt s + 1) = (bytesL s).drop (slashAt s) := by
  have e : (bytesL s).drop (slashAt s) = (bytesL s)[slashAt s]'(by rw [bytesL_length]; exact h) :: (bytesL s).drop (slashAt s + 1) := List.drop_eq_getElem_cons (by rw [bytesL_length]; exact h)
  rw [e, hx]; rfl
 rw [this, List.take_append_drop]
theorem parse_none {s : ByteArray} (h : ¬ slashAt s < s.size) : parseB s = validQ s ⟨#[49]⟩ ∧ cutN s = s ∧ cutD s = ⟨#[49]⟩ := by
 have e1 : cutN s = s := by unfold cutN; rw [if_neg h]
 have e2 : cutD s = ⟨#[49]⟩ := by unfold cutD; rw [if_neg h]
 refine ⟨?_, e1, e2⟩
 unfold parseB
 rw [e1, e2]
 cases hv : validQ s ⟨#[49]⟩ with
 | false => rfl
 | true =>
  have : printB s ⟨#[49]⟩ = s := by unfold printB; rw [if_pos hv, if_pos rfl]
  rw [this]; simp
theorem parse_one {s : ByteArray} (h : slashAt s < s.size) (h1 : cutB s = ⟨#[49]⟩) : parseB s = false := by
 have e2 : cutD s = ⟨#[49]⟩ := by rw [← h1]; unfold cutD cutB; rw [if_pos h, if_pos h]
 unfold parseB
 rw [e2]
 have hne : printB (cutN s) ⟨#[49]⟩ ≠ s := by
  unfold printB
  split
  · rw [if_pos rfl]
    intro e
    have := congrArg ByteArray.size e
    unfold cutN at this
    rw [if_pos h, ByteArray.size_extract] at this
    omega
  intro e
  have := congrArg ByteArray.size e
  rw [show (ByteArray.empty).size = 0 from rfl] at this
  omega
 rw [decide_eq_false hne, Bool.and_false]
theorem parse_some {s : ByteArray} (h : slashAt s < s.size) (h1 : cutB s ≠ ⟨#[49]⟩) : parseB s = validQ (cutA s) (cutB s) ∧ cutN s = cutA s ∧ cutD s = cutB s := by
 have e1 : cutN s = cutA s := rfl
 have e2 : cutD s = cutB s := by unfold cutD cutB; rw [if_pos h, if_pos h]
 refine ⟨?_, e1, e2⟩
 unfold parseB
 rw [e1, e2]
 cases hv : validQ (cutA s) (cutB s) with
 | false => rfl
 | true =>
  have : printB (cutA s) (cutB s) = s := by
   unfold printB
   rw [if_pos hv, if_neg h1]
   unfold cutA cutB
   rw [if_pos h, if_pos h]
   exact slash_split h
  rw [this]; simp
theorem cutA_size (s : ByteArray) : (cutA s).size ≤ s.size := by unfold cutA; split <;> (try rw [ByteArray.size_extract]) <;> omega
theorem cutB_size (s : ByteArray) : (cutB s).size ≤ s.size := by
 unfold cutB; split
 · rw [ByteArray.size_extract]; omega
 exact Nat.zero_le _
theorem parse_q (s : ByteArray) (hs : s.size ≤ 1000000) (w : World) (hR : Ready w) :
 Calls Tryz.prog 72 #[.string s] w fun e w' => e = .returned (.tuple #[.agg #[.string (parN s), .string (parD s)], .int .i64 (parE s)]) ∧ Below w.heap.size w w' := by
 obtain ⟨W0, hW0, b0, hcc⟩ := box_one w ⟨#[]⟩ ⟨#[]⟩
 have HW := hid hW0; have HC := hid hcc; have B0 := hid b0
 have HR := hid (hR.below b0)
 have P0 := hid (Below.refl W0.heap.size W0)
 clear hW0 hcc b0
 clear hR
 have cc := fun W => slashcut_any s (by omega) W
 have hA := cutA_size s
 have hB := cutB_size s
 by_cases h : slashAt s < s.size
 · have hf : cutF s = true := decide_eq_true h
   rw [hf] at cc
   have h1 : ((cutB s).toList == (⟨#[49]⟩ : ByteArray).toList) = decide (cutB s = ⟨#[49]⟩) := by rw [str_eq_iff]
   rw [list49] at h1
   by_cases hb : cutB s = ⟨#[49]⟩
   · rw [decide_eq_true hb] at h1
     unfold parN parD parE
     rw [parse_one h hb]
     show Calls _ _ _ _ fun e w' => e = .returned (.tuple #[.agg #[.string ⟨#[]⟩, .string ⟨#[]⟩], .int .i64 40]) ∧ _
     clear hb
     generalize cutA s = X at *
     generalize cutB s = Y at *
     have CC := hid cc
     clear cc h hf hA hB hs
     go_enter Tryz.func72, Tryz.ntmps72
     obtain ⟨ca0, cb0, cc0, cd0⟩ := HC.out _ (Below.refl _ _)
     go_wp2_with (rw [HW.out])
     refine (CC.out _).mono ?_
     rintro e w1 ⟨rfl, b1⟩
     have P1 := hid (below_up P0.out b1)
     obtain ⟨ca1, cb1, cc1, cd1⟩ := HC.out _ P1.out
     clear b1 P0 ca0 cb0 cc0 cd0 
     go_wp2_with fail
     exact bodyPost_ret (v := .tuple #[.agg #[.string ⟨#[]⟩, .string ⟨#[]⟩], .int .i64 40]) (by simp [results, Tryz.results72, go_sem, ca1, cb1]) rfl ⟨rfl, rat_done B0.out (Nat.le_refl _) P1.out _ _⟩
   rw [decide_eq_false hb] at h1
   obtain ⟨e1, e2, e3⟩ := parse_some h hb
   unfold parN parD parE
   rw [e1, e2, e3]
   generalize cutA s = X at *
   generalize cutB s = Y at *
   have va := fun W (h : Ready W) => valid_q X Y (by omega) (by omega) W h
   have cx := fun W => clone_any X (by omega) W
   have cy := fun W => clone_any Y (by omega) W
   clear e1 e2 e3 hb h hf
   cases hv : validQ X Y with
   | false =>
    rw [hv] at va
    show Calls _ _ _ _ fun e w' => e = .returned (.tuple #[.agg #[.string ⟨#[]⟩, .string ⟨#[]⟩], .int .i64 40]) ∧ _
    have CC := hid cc; have VA := hid va
    clear cc va cx cy hA hB hs hv
    go_enter Tryz.func72, Tryz.ntmps72
    obtain ⟨ca0, cb0, cc0, cd0⟩ := HC.out _ (Below.refl _ _)
    go_wp2_with (rw [HW.out])
    refine (CC.out _).mono ?_
    rintro e w1 ⟨rfl, b1⟩
    have P1 := hid (below_up P0.out b1)
    obtain ⟨ca1, cb1, cc1, cd1⟩ := HC.out _ P1.out
    clear b1 P0 ca0 cb0 cc0 cd0 
    go_wp2_with fail
    refine (VA.out _ (HR.out.below P1.out)).mono ?_
    rintro e w2 ⟨rfl, b2⟩
    have P2 := hid (below_up P1.out b2)
    obtain ⟨ca2, cb2, cc2, cd2⟩ := HC.out _ P2.out
    clear b2 P1 ca1 cb1 cc1 cd1 
    go_wp2_with fail
    exact bodyPost_ret (v := .tuple #[.agg #[.string ⟨#[]⟩, .string ⟨#[]⟩], .int .i64 40]) (by simp [results, Tryz.results72, go_sem, ca2, cb2]) rfl ⟨rfl, rat_done B0.out (Nat.le_refl _) P2.out _ _⟩
   | true =>
    rw [hv] at va
    show Calls _ _ _ _ fun e w' => e = .returned (.tuple #[.agg #[.string X, .string Y], .int .i64 0]) ∧ _
    have CC := hid cc; have VA := hid va; have CX := hid cx; have CY := hid cy
    clear cc va cx cy hA hB hs hv
    go_enter Tryz.func72, Tryz.ntmps72
    obtain ⟨ca0, cb0, cc0, cd0⟩ := HC.out _ (Below.refl _ _)
    go_wp2_with (rw [HW.out])
    refine (CC.out _).mono ?_
    rintro e w1 ⟨rfl, b1⟩
    have P1 := hid (below_up P0.out b1)
    obtain ⟨ca1, cb1, cc1, cd1⟩ := HC.out _ P1.out
    clear b1 P0 ca0 cb0 cc0 cd0 
    go_wp2_with fail
    refine (VA.out _ (HR.out.below P1.out)).mono ?_
    rintro e w2 ⟨rfl, b2⟩
    have P2 := hid (below_up P1.out b2)
    obtain ⟨ca2, cb2, cc2, cd2⟩ := HC.out _ P2.out
    clear b2 P1 ca1 cb1 cc1 cd1 
    go_wp2_with fail
    refine (CX.out _).mono ?_
    rintro e w3 ⟨rfl, b3⟩
    have P3 := hid (below_up P2.out b3)
    obtain ⟨ca3, cb3, cc3, cd3⟩ := HC.out _ P3.out
    clear b3 P2 ca2 cb2 cc2 cd2 
    go_wp2_with fail
    refine (CY.out _).mono ?_
    rintro e w4 ⟨rfl, b4⟩
    have P4 := hid (below_up P3.out b4)
    obtain ⟨ca4, cb4, cc4, cd4⟩ := HC.out _ P4.out
    clear b4 P3 ca3 cb3 cc3 cd3 
    go_wp2_with fail
    exact bodyPost_ret (v := .tuple #[.agg #[.string X, .string Y], .int .i64 0]) (by simp [results, Tryz.results72, go_sem, ca4, cb4]) rfl ⟨rfl, rat_done B0.out (Nat.le_refl _) P4.out _ _⟩
 have hf : cutF s = false := decide_eq_false h
 rw [hf] at cc
 have hX : cutA s = s := by unfold cutA; rw [if_neg h]
 have hY : cutB s = ByteArray.empty := by unfold cutB; rw [if_neg h]
 obtain ⟨e1, e2, e3⟩ := parse_none h
 unfold parN parD parE
 rw [e1, e2, e3]
 rw [hX, hY] at cc
 have va := fun W (h : Ready W) => valid_q s ⟨#[49]⟩ (by omega) (by decide) W h
 have cx := fun W => clone_any s (by omega) W
 have cy := fun W => clone_any ⟨#[49]⟩ (by decide) W
 clear e1 e2 e3 h hf hX hY
 cases hv : validQ s ⟨#[49]⟩ with
 | false =>
  rw [hv] at va
  show Calls _ _ _ _ fun e w' => e = .returned (.tuple #[.agg #[.string ⟨#[]⟩, .string ⟨#[]⟩], .int .i64 40]) ∧ _
  have CC := hid cc; have VA := hid va
  clear cc va cx cy hA hB hs hv
  go_enter Tryz.func72, Tryz.ntmps72
  obtain ⟨ca0, cb0, cc0, cd0⟩ := HC.out _ (Below.refl _ _)
  go_wp2_with (rw [HW.out])
  refine (CC.out _).mono ?_
  rintro e w1 ⟨rfl, b1⟩
  have P1 := hid (below_up P0.out b1)
  obtain ⟨ca1, cb1, cc1, cd1⟩ := HC.out _ P1.out
  clear b1 P0 ca0 cb0 cc0 cd0 
  go_wp2_with fail
  refine (VA.out _ (HR.out.below P1.out)).mono ?_
  rintro e w2 ⟨rfl, b2⟩
  have P2 := hid (below_up P1.out b2)
  obtain ⟨ca2, cb2, cc2, cd2⟩ := HC.out _ P2.out
  clear b2 P1 ca1 cb1 cc1 cd1 
  go_wp2_with fail
  exact bodyPost_ret (v := .tuple #[.agg #[.string ⟨#[]⟩, .string ⟨#[]⟩], .int .i64 40]) (by simp [results, Tryz.results72, go_sem, ca2, cb2]) rfl ⟨rfl, rat_done B0.out (Nat.le_refl _) P2.out _ _⟩
 | true =>
  rw [hv] at va
  show Calls _ _ _ _ fun e w' => e = .returned (.tuple #[.agg #[.string s, .string ⟨#[49]⟩], .int .i64 0]) ∧ _
  have CC := hid cc; have VA := hid va; have CX := hid cx; have CY := hid cy
  clear cc va cx cy hA hB hs hv
  go_enter Tryz.func72, Tryz.ntmps72
  obtain ⟨ca0, cb0, cc0, cd0⟩ := HC.out _ (Below.refl _ _)
  go_wp2_with (rw [HW.out])
  refine (CC.out _).mono ?_
  rintro e w1 ⟨rfl, b1⟩
  have P1 := hid (below_up P0.out b1)
  obtain ⟨ca1, cb1, cc1, cd1⟩ := HC.out _ P1.out
  clear b1 P0 ca0 cb0 cc0 cd0 
  go_wp2_with fail
  refine (VA.out _ (HR.out.below P1.out)).mono ?_
  rintro e w2 ⟨rfl, b2⟩
  have P2 := hid (below_up P1.out b2)
  obtain ⟨ca2, cb2, cc2, cd2⟩ := HC.out _ P2.out
  clear b2 P1 ca1 cb1 cc1 cd1 
  go_wp2_with fail
  refine (CX.out _).mono ?_
  rintro e w3 ⟨rfl, b3⟩
  have P3 := hid (below_up P2.out b3)
  obtain ⟨ca3, cb3, cc3, cd3⟩ := HC.out _ P3.out
  clear b3 P2 ca2 cb2 cc2 cd2 
  go_wp2_with fail
  refine (CY.out _).mono ?_
  rintro e w4 ⟨rfl, b4⟩
  have P4 := hid (below_up P3.out b4)
  obtain ⟨ca4, cb4, cc4, cd4⟩ := HC.out _ P4.out
  clear b4 P3 ca3 cb3 cc3 cd3 
  go_wp2_with fail
  exact bodyPost_ret (v := .tuple #[.agg #[.string s, .string ⟨#[49]⟩], .int .i64 0]) (by simp [results, Tryz.results72, go_sem, ca4, cb4]) rfl ⟨rfl, rat_done B0.out (Nat.le_refl _) P4.out _ _⟩
def sumN (an ad bn bd : ByteArray) : ByteArray := outN (addB an ad bn bd) (valQ an ad + valQ bn bd)
def sumD (an ad bn bd : ByteArray) : ByteArray := outD (addB an ad bn bd) (valQ an ad + valQ bn bd)
def difN (an ad bn bd : ByteArray) : ByteArray := outN (subB an ad bn bd) (valQ an ad - valQ bn bd)
def difD (an ad bn bd : ByteArray) : ByteArray := outD (subB an ad bn bd) (valQ an ad - valQ bn bd)
def proN (an ad bn bd : ByteArray) : ByteArray := outN (mulB an ad bn bd) (valQ an ad * valQ bn bd)
def proD (an ad bn bd : ByteArray) : ByteArray := outD (mulB an ad bn bd) (valQ an ad * valQ bn bd)
def quoN (an ad bn bd : ByteArray) : ByteArray := outN (divB an ad bn bd) (valQ an ad / valQ bn bd)
def quoD (an ad bn bd : ByteArray) : ByteArray := outD (divB an ad bn bd) (valQ an ad / valQ bn bd)
theorem sum_size (an ad bn bd : ByteArray) : (sumN an ad bn bd).size ≤ 1099511627776 ∧ (sumD an ad bn bd).size ≤ 1099511627776 := out_size addB_fits
theorem dif_size (an ad bn bd : ByteArray) : (difN an ad bn bd).size ≤ 1099511627776 ∧ (difD an ad bn bd).size ≤ 1099511627776 := out_size subB_fits
theorem pro_size (an ad bn bd : ByteArray) : (proN an ad bn bd).size ≤ 1099511627776 ∧ (proD an ad bn bd).size ≤ 1099511627776 := out_size mulB_fits
theorem quo_size (an ad bn bd : ByteArray) : (quoN an ad bn bd).size ≤ 1099511627776 ∧ (quoD an ad bn bd).size ≤ 1099511627776 := out_size divB_fits
def LowQ (x : Rat) : Prop := x.num.natAbs ≤ 999 ∧ x.den ≤ 60
theorem LowQ.fits {x : Rat} (h : LowQ x) : FitsQ x := ⟨fits_of_le (k := 999) (by decide +kernel) h.1, fits_of_le (k := 60) (by decide +kernel) (by rw [Int.natAbs_natCast]; exact h.2)⟩
end Go.Proofs.YtcglcgphgahnpaaGreatDoor
namespace Go.Proofs.YtcglcgphgahnpaaGreatDoor
structure Qt where
 n : ByteArray
 d : ByteArray
 t : Int
 b : Int
 m : Int
 c : Int
def Qt.ok (q : Qt) : Bool := okU q.n q.d q.t q.b q.m q.c
def zeroQt : Qt := ⟨⟨#[]⟩, ⟨#[]⟩, 0, 0, 0, 0⟩
def pickQt (x : Bool) (q : Qt) : Qt := if x then q else zeroQt
def Qt.short (q : Qt) : Prop := q.n.size ≤ 1000 ∧ q.d.size ≤ 1000
theorem Qt.short_ok {q : Qt} (h : q.ok = true) : q.short := by
 have := fit60_size (okU_parts h).2
 exact ⟨by omega, by omega⟩
def sameB (p q : Qt) : Bool := (p.t == q.t) && ((p.b == q.b) && ((p.m == q.m) && (p.c == q.c)))
def addQ0 (p q : Qt) : Qt := ⟨sumN p.n p.d q.n q.d, sumD p.n p.d q.n q.d, p.t, p.b, p.m, p.c⟩
def subQ0 (p q : Qt) : Qt := ⟨difN p.n p.d q.n q.d, difD p.n p.d q.n q.d, p.t, p.b, p.m, p.c⟩
def mulQ0 (p q : Qt) : Qt := ⟨proN p.n p.d q.n q.d, proD p.n p.d q.n q.d, p.t + q.t, p.b + q.b, p.m + q.m, p.c + q.c⟩
def divQ0 (p q : Qt) : Qt := ⟨quoN p.n p.d q.n q.d, quoD p.n p.d q.n q.d, p.t - q.t, p.b - q.b, p.m - q.m, p.c - q.c⟩
def addX (p q : Qt) : Bool := (p.ok && (q.ok && sameB p q)) && (addB p.n p.d q.n q.d && (addQ0 p q).ok)
def subX (p q : Qt) : Bool := (p.ok && (q.ok && sameB p q)) && (subB p.n p.d q.n q.d && (subQ0 p q).ok)
def mulX (p q : Qt) : Bool := (p.ok && q.ok) && (mulB p.n p.d q.n q.d && (mulQ0 p q).ok)
def divX (p q : Qt) : Bool := (p.ok && q.ok) && (divB p.n p.d q.n q.d && (divQ0 p q).ok)
def cmpX (p q : Qt) : Bool := p.ok && (q.ok && sameB p q)
def addQt (p q : Qt) : Qt := pickQt (addX p q) (addQ0 p q)
def subQt (p q : Qt) : Qt := pickQt (subX p q) (subQ0 p q)
def mulQt (p q : Qt) : Qt := pickQt (mulX p q) (mulQ0 p q)
def divQt (p q : Qt) : Qt := pickQt (divX p q) (divQ0 p q)
def cmpV (p q : Qt) : Int := if cmpX p q then cmpQ p.n p.d q.n q.d else 0
def Qt.val (q : Qt) : Rat := valQ q.n q.d
theorem Qt.text {q : Qt} (h : q.ok = true) : FitsQ q.val ∧ q.n = nT q.val ∧ q.d = dT q.val := text_validQ (fit60_valid (okU_parts h).2)
theorem Qt.ext' {p q : Qt} (h1 : p.n = q.n) (h2 : p.d = q.d) (h3 : p.t = q.t) (h4 : p.b = q.b) (h5 : p.m = q.m) (h6 : p.c = q.c) : p = q := by
 cases p; cases q; simp only at h1 h2 h3 h4 h5 h6; subst h1 h2 h3 h4 h5 h6; rfl
theorem Qt.same {p q : Qt} (hp : p.ok = true) (hq : q.ok = true) (hv : p.val = q.val) (h3 : p.t = q.t) (h4 : p.b = q.b) (h5 : p.m = q.m) (h6 : p.c = q.c) : p = q := by
 obtain ⟨_, a1, a2⟩ := Qt.text hp
 obtain ⟨_, b1, b2⟩ := Qt.text hq
 exact Qt.ext' (by rw [a1, b1, hv]) (by rw [a2, b2, hv]) h3 h4 h5 h6
theorem lenT_le {z : Int} {k : Nat} (hk : 0 < k) (h : z.natAbs < 10 ^ k) : lenT (textI z) ≤ k := by
 have hs : (textI z).size = (bytesL (textI z)).length := (bytesL_length _).symm
 have hl : (textN z.natAbs).length ≤ k := by
  by_cases h0 : z.natAbs = 0
  · rw [h0]; unfold textN; rw [if_pos rfl]; exact hk
  rw [textN_len h0]; exact digs_length_le _ _ h
 unfold lenT
 rw [hs, bytesL_textI]
 by_cases hz : z < 0
 · rw [if_pos hz, if_pos (by rfl), List.length_append]
   show 1 + _ - 1 ≤ k
   omega
 rw [if_neg hz, List.nil_append]
 split <;> omega
theorem fit60_low {x : Rat} (hn : x.num.natAbs < 10 ^ 60) (hd : x.den < 10 ^ 60) : fit60 (nT x) (dT x) = true := by
 have hx : FitsQ x := ⟨Nat.lt_of_lt_of_le hn (Nat.pow_le_pow_right (by decide) (by decide)), Nat.lt_of_lt_of_le (show ((x.den : Int)).natAbs < 10 ^ 60 by rw [Int.natAbs_natCast]; exact hd) (Nat.pow_le_pow_right (by decide) (by decide))⟩
 have h1 : lenT (nT x) ≤ 60 := lenT_le (by decide) hn
 have h2 : (dT x).size ≤ 60 := by
  have hp := x.den_pos
  show (textI _).size ≤ 60
  rw [← bytesL_length, bytesL_textI, if_neg (by omega), List.nil_append, Int.natAbs_natCast, textN_len (by omega)]
  exact digs_length_le _ _ hd
 unfold fit60
 rw [decide_eq_true h1, decide_eq_true h2, (validQ_text hx).1]
 rfl
def parQ0 (s : ByteArray) : Qt := ⟨cutN (fracT s), cutD (fracT s), (expT s).1, (expT s).2.1, (expT s).2.2.1, (expT s).2.2.2.1⟩
def parQt (s : ByteArray) : Qt := pickQt (parUB s) (parQ0 s)
def madeV (x0 x1 x2 : Int) : Rat := if pickI x2 7 = 6 then Rat.divInt (pickI x0 1152921504606846976) (1 + pickI x1 1099511627776) else Rat.divInt (pickI x0 41 - 20) (1 + pickI x1 9)
def madeQt (x0 x1 x2 x3 : Int) : Qt := ⟨nT (madeV x0 x1 x2), dT (madeV x0 x1 x2), pickI x3 625 % 5 - 2, pickI x3 625 / 5 % 5 - 2, pickI x3 625 / 25 % 5 - 2, pickI x3 625 / 125 - 2⟩
theorem made_low (x0 x1 x2 : Int) : (madeV x0 x1 x2).num.natAbs < 10 ^ 60 ∧ (madeV x0 x1 x2).den < 10 ^ 60 := by
 have r0 := pickI_range x0 (n := 1152921504606846976) (by decide)
 have r1 := pickI_range x1 (n := 1099511627776) (by decide)
 have r2 := pickI_range x0 (n := 41) (by decide)
 have r3 := pickI_range x1 (n := 9) (by decide)
 unfold madeV
 split
 · obtain ⟨h1, h2⟩ := divInt_num_le (pickI x0 1152921504606846976) (1 + pickI x1 1099511627776) (by omega)
   exact ⟨Nat.lt_of_le_of_lt h1 (by omega), Nat.lt_of_le_of_lt h2 (by omega)⟩
 obtain ⟨h1, h2⟩ := divInt_num_le (pickI x0 41 - 20) (1 + pickI x1 9) (by omega)
 exact ⟨Nat.lt_of_le_of_lt h1 (by omega), Nat.lt_of_le_of_lt h2 (by omega)⟩
theorem made_exps (x : Int) : InE (pickI x 625 % 5 - 2) ∧ InE (pickI x 625 / 5 % 5 - 2) ∧ InE (pickI x 625 / 25 % 5 - 2) ∧ InE (pickI x 625 / 125 - 2) := by
 have r := pickI_range x (n := 625) (by decide)
 unfold InE
 omega
theorem made_ok (x0 x1 x2 x3 : Int) : (madeQt x0 x1 x2 x3).ok = true := by
 obtain ⟨h1, h2, h3, h4⟩ := made_exps x3
 obtain ⟨h5, h6⟩ := made_low x0 x1 x2
 show okU _ _ _ _ _ _ = true
 unfold okU okE
 rw [show fit60 (madeQt x0 x1 x2 x3).n (madeQt x0 x1 x2 x3).d = true from fit60_low h5 h6]
 show (decide (InE (pickI x3 625 % 5 - 2)) && (decide (InE (pickI x3 625 / 5 % 5 - 2)) && (decide (InE (pickI x3 625 / 25 % 5 - 2)) && decide (InE (pickI x3 625 / 125 - 2))))) && true = true
 rw [decide_eq_true h1, decide_eq_true h2, decide_eq_true h3, decide_eq_true h4]
 rfl
end Go.Proofs.YtcglcgphgahnpaaGreatDoor
namespace Go.Proofs.YtcglcgphgahnpaaGreatDoor
open Go Go.Proofs Go.RowKit Go.Lib
theorem us_any (n d : ByteArray) (w : World) : Calls Tryz.prog 36 #[.string n, .string d] w fun e w' => e = .returned (.agg #[.string n, .string d, .int .i64 1, .int .i64 0, .int .i64 0, .int .i64 0]) ∧ Below w.heap.size w w' := by
 obtain ⟨W0, hW0, b0, s0, hcc⟩ := lay1 w (.string ⟨#[]⟩) [.string ⟨#[]⟩, .int .i64 0, .int .i64 0, .int .i64 0, .int .i64 0] 27
 obtain ⟨y, hy⟩ : ∃ y, ((((((W0.setCell ⟨w.heap.size, 0, none⟩ (.string n)).setCell ⟨w.heap.size, 1, none⟩ (.string d)).setCell ⟨w.heap.size, 2, none⟩ (.int .i64 1)).setCell ⟨w.heap.size, 3, none⟩ (.int .i64 0)).setCell ⟨w.heap.size, 4, none⟩ (.int .i64 0)).setCell ⟨w.heap.size, 5, none⟩ (.int .i64 0)) = y := ⟨_, rfl⟩
 have KY := hid (show CellsAt y w.heap.size [.string n, .string d, .int .i64 1, .int .i64 0, .int .i64 0, .int .i64 0] by rw [← hy]; exact put6 (hcc W0 (Below.refl _ _)) _ _ _ _ _ _)
 have BY := hid (show Below w.heap.size w y by rw [← hy]; exact low6 (Nat.le_refl _) b0 _ _ _ _ _ _)
 have HY := hid hy; have HW := hid hW0
 obtain ⟨⟨r0, r1, r2, r3, r4, r5⟩, ⟨r6, r7, r8, r9, ra, rb⟩⟩ := six_facts (hcc W0 (Below.refl _ _))
 clear hy hW0 b0 hcc s0
 go_enter Tryz.func36, Tryz.ntmps36
 go_upto_region 1 with (rw [HW.out])
 go_wp2_with (rw [HY.out])
 obtain ⟨⟨t0, t1, t2, t3, t4, t5⟩, _⟩ := six_facts KY.out
 exact bodyPost_ret (v := .agg #[.string n, .string d, .int .i64 1, .int .i64 0, .int .i64 0, .int .i64 0]) (by simp [results, Tryz.results36, go_sem, t0, t1, t2, t3, t4, t5]) rfl ⟨rfl, BY.out⟩
def cut70 (s : ByteArray) : ByteArray := s.extract 0 (min (s.size : Int) 70).toNat
theorem cut70_size (s : ByteArray) : (cut70 s).size ≤ 70 := by unfold cut70; rw [ByteArray.size_extract]; omega
def cutQt (q : Qt) : Qt := ⟨cut70 q.n, cut70 q.d, q.t, q.b, q.m, q.c⟩
theorem cutQt_short (q : Qt) : (cutQt q).short := ⟨Nat.le_trans (cut70_size _) (by decide), Nat.le_trans (cut70_size _) (by decide)⟩
theorem cut_any5 (n d : ByteArray) (t b m c : Int) (hn : n.size ≤ maxLen) (hd : d.size ≤ maxLen) (w : World) : Calls Tryz.prog 11 #[.agg #[.string n, .string d, .int .i64 t, .int .i64 b, .int .i64 m, .int .i64 c]] w fun e w' => e = .returned (.agg #[.string (cut70 n), .string (cut70 d), .int .i64 t, .int .i64 b, .int .i64 m, .int .i64 c]) ∧ Below w.heap.size w w' := by
 obtain ⟨W0, hW0, b0, s0, hcc⟩ := lay2 w (.string n) [.string d, .int .i64 t, .int .i64 b, .int .i64 m, .int .i64 c] 27 (.string ⟨#[]⟩) [.string ⟨#[]⟩, .int .i64 0, .int .i64 0, .int .i64 0, .int .i64 0] 27
 have h0 := hcc W0 (Below.refl _ _)
 obtain ⟨y1, hy1⟩ : ∃ y, W0.setCell ⟨w.heap.size, 0, none⟩ (.string (cut70 n)) = y := ⟨_, rfl⟩
 obtain ⟨y2, hy2⟩ : ∃ y, y1.setCell ⟨w.heap.size, 1, none⟩ (.string (cut70 d)) = y := ⟨_, rfl⟩
 obtain ⟨y3, hy3⟩ : ∃ y, ((((((y2.setCell ⟨w.heap.size + 1, 0, none⟩ (.string (cut70 n))).setCell ⟨w.heap.size + 1, 1, none⟩ (.string (cut70 d))).setCell ⟨w.heap.size + 1, 2, none⟩ (.int .i64 t)).setCell ⟨w.heap.size + 1, 3, none⟩ (.int .i64 b)).setCell ⟨w.heap.size + 1, 4, none⟩ (.int .i64 m)).setCell ⟨w.heap.size + 1, 5, none⟩ (.int .i64 c)) = y := ⟨_, rfl⟩
 have k1 : CellsAt y1 w.heap.size [.string (cut70 n), .string d, .int .i64 t, .int .i64 b, .int .i64 m, .int .i64 c] := by rw [← hy1]; exact h0.1.put 0 (.string (cut70 n))
 have k2 : CellsAt y2 w.heap.size [.string (cut70 n), .string (cut70 d), .int .i64 t, .int .i64 b, .int .i64 m, .int .i64 c] := by rw [← hy2]; exact k1.put 1 (.string (cut70 d))
 have j2 : CellsAt y2 (w.heap.size + 1) [.string ⟨#[]⟩, .string ⟨#[]⟩, .int .i64 0, .int .i64 0, .int .i64 0, .int .i64 0] := by rw [← hy2, ← hy1]; exact (h0.2.far (show w.heap.size ≠ w.heap.size + 1 by omega)).far (show w.heap.size ≠ w.heap.size + 1 by omega)
 have K1 := hid k1; have K2 := hid k2; have J2 := hid j2; have H0 := hid h0
 have KY := hid (show CellsAt y3 (w.heap.size + 1) [.string (cut70 n), .string (cut70 d), .int .i64 t, .int .i64 b, .int .i64 m, .int .i64 c] by rw [← hy3]; exact put6 j2 _ _ _ _ _ _)
 have BY := hid (show Below w.heap.size w y3 by rw [← hy3, ← hy2, ← hy1]; exact low6 (show w.heap.size ≤ w.heap.size + 1 by omega) ((b0.setCell (p := ⟨w.heap.size, 0, none⟩) (Nat.le_refl _) _).setCell (p := ⟨w.heap.size, 1, none⟩) (Nat.le_refl _) _) _ _ _ _ _ _)
 have HY1 := hid hy1; have HY2 := hid hy2; have HY3 := hid hy3; have HW := hid hW0
 unfold maxLen at hn hd
 have q1 : 0 ≤ min (n.size : Int) 70 := by omega
 have q2 : min (n.size : Int) 70 ≤ n.size := by omega
 have q3 : 0 ≤ min (d.size : Int) 70 := by omega
 have q4 : min (d.size : Int) 70 ≤ d.size := by omega
 clear hW0 b0 hcc s0 h0 hy1 hy2 hy3 k1 k2 j2
 go_enter Tryz.func11, Tryz.ntmps11
 go_upto_region 1 with (rw [HW.out])
 obtain ⟨⟨a0, a1, a2, a3, a4, a5⟩, ⟨a6, a7, a8, a9, aa, ab⟩⟩ := six_facts H0.out.1
 go_upto_region 2 with fail
 rw [show n.extract 0 (min (n.size : Int) 70).toNat = cut70 n from rfl, HY1.out]
 clear a0 a1 a2 a3 a4 a5 a6 a7 a8 a9 aa ab
 obtain ⟨⟨a0, a1, a2, a3, a4, a5⟩, ⟨a6, a7, a8, a9, aa, ab⟩⟩ := six_facts K1.out
 go_upto_region 3 with fail
 rw [show d.extract 0 (min (d.size : Int) 70).toNat = cut70 d from rfl, HY2.out]
 clear a0 a1 a2 a3 a4 a5 a6 a7 a8 a9 aa ab q1 q2 q3 q4
 obtain ⟨⟨a0, a1, a2, a3, a4, a5⟩, _⟩ := six_facts K2.out
 obtain ⟨⟨r0, r1, r2, r3, r4, r5⟩, ⟨r6, r7, r8, r9, ra, rb⟩⟩ := six_facts J2.out
 go_wp2_with (rw [HY3.out])
 obtain ⟨⟨t0, t1, t2, t3, t4, t5⟩, _⟩ := six_facts KY.out
 exact bodyPost_ret (v := .agg #[.string (cut70 n), .string (cut70 d), .int .i64 t, .int .i64 b, .int .i64 m, .int .i64 c]) (by simp [results, Tryz.results11, go_sem, t0, t1, t2, t3, t4, t5]) rfl ⟨rfl, BY.out⟩
theorem pick_n (x : Bool) (q : Qt) : (pickQt x q).n = pz x q.n := by cases x <;> rfl
theorem pick_d (x : Bool) (q : Qt) : (pickQt x q).d = pz x q.d := by cases x <;> rfl
theorem pick_t (x : Bool) (q : Qt) : (pickQt x q).t = zU x q.t := by cases x <;> rfl
theorem pick_b (x : Bool) (q : Qt) : (pickQt x q).b = zU x q.b := by cases x <;> rfl
theorem pick_m (x : Bool) (q : Qt) : (pickQt x q).m = zU x q.m := by cases x <;> rfl
theorem pick_c (x : Bool) (q : Qt) : (pickQt x q).c = zU x q.c := by cases x <;> rfl
theorem fin_ok (x y s v : Bool) (N D : ByteArray) (t b m c : Int) :
 (decide (eU (apX x y (eU s) (outE v)) = 0) && okU (pz (apX x y (eU s) (outE v)) N) (pz (apX x y (eU s) (outE v)) D) (zU (apX x y (eU s) (outE v)) (zU s t)) (zU (apX x y (eU s) (outE v)) (zU s b)) (zU (apX x y (eU s) (outE v)) (zU s m)) (zU (apX x y (eU s) (outE v)) (zU s c))) = ((x && (y && s)) && (v && okU N D t b m c)) := by
 cases x <;> cases y <;> cases s <;> cases v <;> rfl
theorem fin_yes {x y s v k : Bool} (h : ((x && (y && s)) && (v && k)) = true) : apX x y (eU s) (outE v) = true ∧ s = true := by
 revert h
 cases x <;> cases y <;> cases s <;> cases v <;> first | exact fun _ => ⟨rfl, rfl⟩ | (intro h; cases h)
theorem fin_pz {k x : Bool} (h : k = true → x = true) (N : ByteArray) : pz k (pz x N) = pz k N := by
 cases k with
 | false => rfl
 | true => rw [h rfl]; rfl
theorem fin_zU {k x s : Bool} (h : k = true → x = true ∧ s = true) (n : Int) : zU k (zU x (zU s n)) = zU k n := by
 cases k with
 | false => rfl
 | true => rw [(h rfl).1, (h rfl).2]; rfl
theorem add_u (p q : Qt) (hp : p.short) (hq : q.short) (w : World) (hR : Ready w) : Calls Tryz.prog 17 #[.agg #[.string p.n, .string p.d, .int .i64 p.t, .int .i64 p.b, .int .i64 p.m, .int .i64 p.c], .agg #[.string q.n, .string q.d, .int .i64 q.t, .int .i64 q.b, .int .i64 q.m, .int .i64 q.c]] w fun e w' => e = .returned (.tuple #[.agg #[.string (addQt p q).n, .string (addQt p q).d, .int .i64 (addQt p q).t, .int .i64 (addQt p q).b, .int .i64 (addQt p q).m, .int .i64 (addQt p q).c], .int .i64 (eU (addX p q))]) ∧ Below w.heap.size w w' := by
 have l1 : p.n.size ≤ 1099511627776 := Nat.le_trans hp.1 (by decide); have l2 : p.d.size ≤ 1099511627776 := Nat.le_trans hp.2 (by decide)
 have l3 : q.n.size ≤ 1099511627776 := Nat.le_trans hq.1 (by decide); have l4 : q.d.size ≤ 1099511627776 := Nat.le_trans hq.2 (by decide)
 have hz := sum_size p.n p.d q.n q.d
 obtain ⟨X, hX⟩ : ∃ X, (apX p.ok q.ok (eU (sameB p q)) (outE (addB p.n p.d q.n q.d))) = X := ⟨_, rfl⟩
 have hk : (decide (eU X = 0) && okU (pz X (sumN p.n p.d q.n q.d)) (pz X (sumD p.n p.d q.n q.d)) (zU X (zU (sameB p q) p.t)) (zU X (zU (sameB p q) p.b)) (zU X (zU (sameB p q) p.m)) (zU X (zU (sameB p q) p.c))) = addX p q := by
  rw [← hX]
  refine (fin_ok p.ok q.ok (sameB p q) (addB p.n p.d q.n q.d) (sumN p.n p.d q.n q.d) (sumD p.n p.d q.n q.d) p.t p.b p.m p.c).trans ?_
  rfl
 have hy : addX p q = true → X = true ∧ (sameB p q) = true := fun h => by
  have := h
  unfold addX at this
  rw [← hX]
  exact fin_yes this
 have ca := fun W (h : Ready W) => applyR_u 45 46 (enters Tryz.func45 (by decide) rfl) (enters Tryz.func46 (by decide) rfl) p.n p.d p.t p.b p.m p.c q.n q.d q.t q.b q.m q.c l1 l2 l3 l4 (zU (sameB p q) p.t) (zU (sameB p q) p.b) (zU (sameB p q) p.m) (zU (sameB p q) p.c) (eU (sameB p q)) (sumN p.n p.d q.n q.d) (sumD p.n p.d q.n q.d) (outE (addB p.n p.d q.n q.d)) (fun _ _ W => same_u p.t p.b p.m p.c q.t q.b q.m q.c W) (fun _ _ W h => add_q p.n p.d q.n q.d l1 l2 l3 l4 W h) W h
 have hX' : apX (okU p.n p.d p.t p.b p.m p.c) (okU q.n q.d q.t q.b q.m q.c) (eU (sameB p q)) (outE (addB p.n p.d q.n q.d)) = X := hX
 rw [hX'] at ca
 have zp : ∀ (x : Bool) (s : ByteArray), s.size ≤ 1099511627776 → (pz x s).size ≤ 1099511627776 := fun x s h => by cases x <;> first | exact Nat.zero_le _ | exact h
 have ck : ∀ W, Ready W → Calls Tryz.prog 43 #[.agg #[.string (pz X (sumN p.n p.d q.n q.d)), .string (pz X (sumD p.n p.d q.n q.d))], .agg #[.int .i64 (zU X (zU (sameB p q) p.t)), .int .i64 (zU X (zU (sameB p q) p.b)), .int .i64 (zU X (zU (sameB p q) p.m)), .int .i64 (zU X (zU (sameB p q) p.c))], .int .i64 (eU X)] W fun e w' => e = .returned (.tuple #[.agg #[.string (addQt p q).n, .string (addQt p q).d, .int .i64 (addQt p q).t, .int .i64 (addQt p q).b, .int .i64 (addQt p q).m, .int .i64 (addQt p q).c], .int .i64 (eU (addX p q))]) ∧ Below W.heap.size W w' := fun W h => by
  have k := checked_u (pz X (sumN p.n p.d q.n q.d)) (pz X (sumD p.n p.d q.n q.d)) (zU X (zU (sameB p q) p.t)) (zU X (zU (sameB p q) p.b)) (zU X (zU (sameB p q) p.m)) (zU X (zU (sameB p q) p.c)) (eU X) (zp _ _ hz.1) (zp _ _ hz.2) W h
  rw [hk] at k
  have e1 : pz (addX p q) (pz X (sumN p.n p.d q.n q.d)) = (addQt p q).n := (fin_pz (fun h => (hy h).1) _).trans (pick_n _ (addQ0 p q)).symm
  have e2 : pz (addX p q) (pz X (sumD p.n p.d q.n q.d)) = (addQt p q).d := (fin_pz (fun h => (hy h).1) _).trans (pick_d _ (addQ0 p q)).symm
  have e3 : zU (addX p q) (zU X (zU (sameB p q) p.t)) = (addQt p q).t := (fin_zU hy _).trans (pick_t _ (addQ0 p q)).symm
  have e4 : zU (addX p q) (zU X (zU (sameB p q) p.b)) = (addQt p q).b := (fin_zU hy _).trans (pick_b _ (addQ0 p q)).symm
  have e5 : zU (addX p q) (zU X (zU (sameB p q) p.m)) = (addQt p q).m := (fin_zU hy _).trans (pick_m _ (addQ0 p q)).symm
  have e6 : zU (addX p q) (zU X (zU (sameB p q) p.c)) = (addQt p q).c := (fin_zU hy _).trans (pick_c _ (addQ0 p q)).symm
  rw [e1, e2, e3, e4, e5, e6] at k
  exact k
 clear hk hy hX hX' zp hz
 generalize pz X (sumN p.n p.d q.n q.d) = AN at *
 generalize pz X (sumD p.n p.d q.n q.d) = AD at *
 generalize zU X (zU (sameB p q) p.t) = A0 at *
 generalize zU X (zU (sameB p q) p.b) = A1 at *
 generalize zU X (zU (sameB p q) p.m) = A2 at *
 generalize zU X (zU (sameB p q) p.c) = A3 at *
 generalize eU X = AE at *
 generalize addQt p q = r at *
 generalize eU (addX p q) = RE at *
 obtain ⟨W0, hW0, b0, s0, hcc⟩ := lay3 w (.string p.n) [.string p.d, .int .i64 p.t, .int .i64 p.b, .int .i64 p.m, .int .i64 p.c] 27 (.string q.n) [.string q.d, .int .i64 q.t, .int .i64 q.b, .int .i64 q.m, .int .i64 q.c] 27 (.string ⟨#[]⟩) [.string ⟨#[]⟩, .int .i64 0, .int .i64 0, .int .i64 0, .int .i64 0] 27
 have HW := hid hW0; have B0 := hid b0; have HC := hid hcc; have HR := hid (hR.below b0); have CA := hid ca; have CK := hid ck
 clear hW0 b0 hcc s0 hR ca ck l1 l2 l3 l4 hp hq
 go_enter Tryz.func17, Tryz.ntmps17
 obtain ⟨⟨pa0, pa1, pa2, pa3, pa4, pa5⟩, _⟩ := six_facts (HC.out W0 (Below.refl _ _)).1
 obtain ⟨⟨pb0, pb1, pb2, pb3, pb4, pb5⟩, _⟩ := six_facts (HC.out W0 (Below.refl _ _)).2.1
 go_wp2_with (rw [HW.out])
 refine (CA.out _ HR.out).mono ?_
 rintro e z1 ⟨rfl, b1⟩
 have B1 := hid b1
 clear b1 pa0 pa1 pa2 pa3 pa4 pa5 pb0 pb1 pb2 pb3 pb4 pb5
 go_wp2_with fail
 refine (CK.out _ (HR.out.below B1.out)).mono ?_
 rintro e z2 ⟨rfl, b2⟩
 have B2 := hid (below_up B1.out b2)
 clear b2
 obtain ⟨y, hy⟩ : ∃ y, ((((((z2.setCell ⟨w.heap.size + 1 + 1, 0, none⟩ (.string r.n)).setCell ⟨w.heap.size + 1 + 1, 1, none⟩ (.string r.d)).setCell ⟨w.heap.size + 1 + 1, 2, none⟩ (.int .i64 r.t)).setCell ⟨w.heap.size + 1 + 1, 3, none⟩ (.int .i64 r.b)).setCell ⟨w.heap.size + 1 + 1, 4, none⟩ (.int .i64 r.m)).setCell ⟨w.heap.size + 1 + 1, 5, none⟩ (.int .i64 r.c)) = y := ⟨_, rfl⟩
 have KY := hid (show CellsAt y (w.heap.size + 1 + 1) [.string r.n, .string r.d, .int .i64 r.t, .int .i64 r.b, .int .i64 r.m, .int .i64 r.c] by rw [← hy]; exact put6 (HC.out z2 B2.out).2.2 _ _ _ _ _ _)
 have BY := hid (show Below w.heap.size w y by rw [← hy]; exact low6 (show w.heap.size ≤ w.heap.size + 1 + 1 by omega) (below_up B0.out B2.out) _ _ _ _ _ _)
 have HY := hid hy
 clear hy
 obtain ⟨⟨r0, r1, r2, r3, r4, r5⟩, ⟨r6, r7, r8, r9, ra, rb⟩⟩ := six_facts (HC.out z2 B2.out).2.2
 go_wp2_with (rw [HY.out])
 obtain ⟨⟨s0, s1, s2, s3, s4, s5⟩, _⟩ := six_facts KY.out
 exact bodyPost_ret (v := .tuple #[.agg #[.string r.n, .string r.d, .int .i64 r.t, .int .i64 r.b, .int .i64 r.m, .int .i64 r.c], .int .i64 RE]) (by simp [results, Tryz.results17, go_sem, s0, s1, s2, s3, s4, s5]) rfl ⟨rfl, BY.out⟩
theorem sub_u (p q : Qt) (hp : p.short) (hq : q.short) (w : World) (hR : Ready w) : Calls Tryz.prog 19 #[.agg #[.string p.n, .string p.d, .int .i64 p.t, .int .i64 p.b, .int .i64 p.m, .int .i64 p.c], .agg #[.string q.n, .string q.d, .int .i64 q.t, .int .i64 q.b, .int .i64 q.m, .int .i64 q.c]] w fun e w' => e = .returned (.tuple #[.agg #[.string (subQt p q).n, .string (subQt p q).d, .int .i64 (subQt p q).t, .int .i64 (subQt p q).b, .int .i64 (subQt p q).m, .int .i64 (subQt p q).c], .int .i64 (eU (subX p q))]) ∧ Below w.heap.size w w' := by
 have l1 : p.n.size ≤ 1099511627776 := Nat.le_trans hp.1 (by decide); have l2 : p.d.size ≤ 1099511627776 := Nat.le_trans hp.2 (by decide)
 have l3 : q.n.size ≤ 1099511627776 := Nat.le_trans hq.1 (by decide); have l4 : q.d.size ≤ 1099511627776 := Nat.le_trans hq.2 (by decide)
 have hz := dif_size p.n p.d q.n q.d
 obtain ⟨X, hX⟩ : ∃ X, (apX p.ok q.ok (eU (sameB p q)) (outE (subB p.n p.d q.n q.d))) = X := ⟨_, rfl⟩
 have hk : (decide (eU X = 0) && okU (pz X (difN p.n p.d q.n q.d)) (pz X (difD p.n p.d q.n q.d)) (zU X (zU (sameB p q) p.t)) (zU X (zU (sameB p q) p.b)) (zU X (zU (sameB p q) p.m)) (zU X (zU (sameB p q) p.c))) = subX p q := by
  rw [← hX]
  refine (fin_ok p.ok q.ok (sameB p q) (subB p.n p.d q.n q.d) (difN p.n p.d q.n q.d) (difD p.n p.d q.n q.d) p.t p.b p.m p.c).trans ?_
  rfl
 have hy : subX p q = true → X = true ∧ (sameB p q) = true := fun h => by
  have := h
  unfold subX at this
  rw [← hX]
  exact fin_yes this
 have ca := fun W (h : Ready W) => applyR_u 49 46 (enters Tryz.func49 (by decide) rfl) (enters Tryz.func46 (by decide) rfl) p.n p.d p.t p.b p.m p.c q.n q.d q.t q.b q.m q.c l1 l2 l3 l4 (zU (sameB p q) p.t) (zU (sameB p q) p.b) (zU (sameB p q) p.m) (zU (sameB p q) p.c) (eU (sameB p q)) (difN p.n p.d q.n q.d) (difD p.n p.d q.n q.d) (outE (subB p.n p.d q.n q.d)) (fun _ _ W => same_u p.t p.b p.m p.c q.t q.b q.m q.c W) (fun _ _ W h => sub_q p.n p.d q.n q.d l1 l2 l3 l4 W h) W h
 have hX' : apX (okU p.n p.d p.t p.b p.m p.c) (okU q.n q.d q.t q.b q.m q.c) (eU (sameB p q)) (outE (subB p.n p.d q.n q.d)) = X := hX
 rw [hX'] at ca
 have zp : ∀ (x : Bool) (s : ByteArray), s.size ≤ 1099511627776 → (pz x s).size ≤ 1099511627776 := fun x s h => by cases x <;> first | exact Nat.zero_le _ | exact h
 have ck : ∀ W, Ready W → Calls Tryz.prog 43 #[.agg #[.string (pz X (difN p.n p.d q.n q.d)), .string (pz X (difD p.n p.d q.n q.d))], .agg #[.int .i64 (zU X (zU (sameB p q) p.t)), .int .i64 (zU X (zU (sameB p q) p.b)), .int .i64 (zU X (zU (sameB p q) p.m)), .int .i64 (zU X (zU (sameB p q) p.c))], .int .i64 (eU X)] W fun e w' => e = .returned (.tuple #[.agg #[.string (subQt p q).n, .string (subQt p q).d, .int .i64 (subQt p q).t, .int .i64 (subQt p q).b, .int .i64 (subQt p q).m, .int .i64 (subQt p q).c], .int .i64 (eU (subX p q))]) ∧ Below W.heap.size W w' := fun W h => by
  have k := checked_u (pz X (difN p.n p.d q.n q.d)) (pz X (difD p.n p.d q.n q.d)) (zU X (zU (sameB p q) p.t)) (zU X (zU (sameB p q) p.b)) (zU X (zU (sameB p q) p.m)) (zU X (zU (sameB p q) p.c)) (eU X) (zp _ _ hz.1) (zp _ _ hz.2) W h
  rw [hk] at k
  have e1 : pz (subX p q) (pz X (difN p.n p.d q.n q.d)) = (subQt p q).n := (fin_pz (fun h => (hy h).1) _).trans (pick_n _ (subQ0 p q)).symm
  have e2 : pz (subX p q) (pz X (difD p.n p.d q.n q.d)) = (subQt p q).d := (fin_pz (fun h => (hy h).1) _).trans (pick_d _ (subQ0 p q)).symm
  have e3 : zU (subX p q) (zU X (zU (sameB p q) p.t)) = (subQt p q).t := (fin_zU hy _).trans (pick_t _ (subQ0 p q)).symm
  have e4 : zU (subX p q) (zU X (zU (sameB p q) p.b)) = (subQt p q).b := (fin_zU hy _).trans (pick_b _ (subQ0 p q)).symm
  have e5 : zU (subX p q) (zU X (zU (sameB p q) p.m)) = (subQt p q).m := (fin_zU hy _).trans (pick_m _ (subQ0 p q)).symm
  have e6 : zU (subX p q) (zU X (zU (sameB p q) p.c)) = (subQt p q).c := (fin_zU hy _).trans (pick_c _ (subQ0 p q)).symm
  rw [e1, e2, e3, e4, e5, e6] at k
  exact k
 clear hk hy hX hX' zp hz
 generalize pz X (difN p.n p.d q.n q.d) = AN at *
 generalize pz X (difD p.n p.d q.n q.d) = AD at *
 generalize zU X (zU (sameB p q) p.t) = A0 at *
 generalize zU X (zU (sameB p q) p.b) = A1 at *
 generalize zU X (zU (sameB p q) p.m) = A2 at *
 generalize zU X (zU (sameB p q) p.c) = A3 at *
 generalize eU X = AE at *
 generalize subQt p q = r at *
 generalize eU (subX p q) = RE at *
 obtain ⟨W0, hW0, b0, s0, hcc⟩ := lay3 w (.string p.n) [.string p.d, .int .i64 p.t, .int .i64 p.b, .int .i64 p.m, .int .i64 p.c] 27 (.string q.n) [.string q.d, .int .i64 q.t, .int .i64 q.b, .int .i64 q.m, .int .i64 q.c] 27 (.string ⟨#[]⟩) [.string ⟨#[]⟩, .int .i64 0, .int .i64 0, .int .i64 0, .int .i64 0] 27
 have HW := hid hW0; have B0 := hid b0; have HC := hid hcc; have HR := hid (hR.below b0); have CA := hid ca; have CK := hid ck
 clear hW0 b0 hcc s0 hR ca ck l1 l2 l3 l4 hp hq
 go_enter Tryz.func19, Tryz.ntmps19
 obtain ⟨⟨pa0, pa1, pa2, pa3, pa4, pa5⟩, _⟩ := six_facts (HC.out W0 (Below.refl _ _)).1
 obtain ⟨⟨pb0, pb1, pb2, pb3, pb4, pb5⟩, _⟩ := six_facts (HC.out W0 (Below.refl _ _)).2.1
 go_wp2_with (rw [HW.out])
 refine (CA.out _ HR.out).mono ?_
 rintro e z1 ⟨rfl, b1⟩
 have B1 := hid b1
 clear b1 pa0 pa1 pa2 pa3 pa4 pa5 pb0 pb1 pb2 pb3 pb4 pb5
 go_wp2_with fail
 refine (CK.out _ (HR.out.below B1.out)).mono ?_
 rintro e z2 ⟨rfl, b2⟩
 have B2 := hid (below_up B1.out b2)
 clear b2
 obtain ⟨y, hy⟩ : ∃ y, ((((((z2.setCell ⟨w.heap.size + 1 + 1, 0, none⟩ (.string r.n)).setCell ⟨w.heap.size + 1 + 1, 1, none⟩ (.string r.d)).setCell ⟨w.heap.size + 1 + 1, 2, none⟩ (.int .i64 r.t)).setCell ⟨w.heap.size + 1 + 1, 3, none⟩ (.int .i64 r.b)).setCell ⟨w.heap.size + 1 + 1, 4, none⟩ (.int .i64 r.m)).setCell ⟨w.heap.size + 1 + 1, 5, none⟩ (.int .i64 r.c)) = y := ⟨_, rfl⟩
 have KY := hid (show CellsAt y (w.heap.size + 1 + 1) [.string r.n, .string r.d, .int .i64 r.t, .int .i64 r.b, .int .i64 r.m, .int .i64 r.c] by rw [← hy]; exact put6 (HC.out z2 B2.out).2.2 _ _ _ _ _ _)
 have BY := hid (show Below w.heap.size w y by rw [← hy]; exact low6 (show w.heap.size ≤ w.heap.size + 1 + 1 by omega) (below_up B0.out B2.out) _ _ _ _ _ _)
 have HY := hid hy
 clear hy
 obtain ⟨⟨r0, r1, r2, r3, r4, r5⟩, ⟨r6, r7, r8, r9, ra, rb⟩⟩ := six_facts (HC.out z2 B2.out).2.2
 go_wp2_with (rw [HY.out])
 obtain ⟨⟨s0, s1, s2, s3, s4, s5⟩, _⟩ := six_facts KY.out
 exact bodyPost_ret (v := .tuple #[.agg #[.string r.n, .string r.d, .int .i64 r.t, .int .i64 r.b, .int .i64 r.m, .int .i64 r.c], .int .i64 RE]) (by simp [results, Tryz.results19, go_sem, s0, s1, s2, s3, s4, s5]) rfl ⟨rfl, BY.out⟩
theorem mul_u (p q : Qt) (hp : p.short) (hq : q.short) (w : World) (hR : Ready w) : Calls Tryz.prog 21 #[.agg #[.string p.n, .string p.d, .int .i64 p.t, .int .i64 p.b, .int .i64 p.m, .int .i64 p.c], .agg #[.string q.n, .string q.d, .int .i64 q.t, .int .i64 q.b, .int .i64 q.m, .int .i64 q.c]] w fun e w' => e = .returned (.tuple #[.agg #[.string (mulQt p q).n, .string (mulQt p q).d, .int .i64 (mulQt p q).t, .int .i64 (mulQt p q).b, .int .i64 (mulQt p q).m, .int .i64 (mulQt p q).c], .int .i64 (eU (mulX p q))]) ∧ Below w.heap.size w w' := by
 have l1 : p.n.size ≤ 1099511627776 := Nat.le_trans hp.1 (by decide); have l2 : p.d.size ≤ 1099511627776 := Nat.le_trans hp.2 (by decide)
 have l3 : q.n.size ≤ 1099511627776 := Nat.le_trans hq.1 (by decide); have l4 : q.d.size ≤ 1099511627776 := Nat.le_trans hq.2 (by decide)
 have hz := pro_size p.n p.d q.n q.d
 obtain ⟨X, hX⟩ : ∃ X, (apX p.ok q.ok (eU true) (outE (mulB p.n p.d q.n q.d))) = X := ⟨_, rfl⟩
 have hk : (decide (eU X = 0) && okU (pz X (proN p.n p.d q.n q.d)) (pz X (proD p.n p.d q.n q.d)) (zU X (zU true (p.t + q.t))) (zU X (zU true (p.b + q.b))) (zU X (zU true (p.m + q.m))) (zU X (zU true (p.c + q.c)))) = mulX p q := by
  rw [← hX]
  refine (fin_ok p.ok q.ok true (mulB p.n p.d q.n q.d) (proN p.n p.d q.n q.d) (proD p.n p.d q.n q.d) (p.t + q.t) (p.b + q.b) (p.m + q.m) (p.c + q.c)).trans ?_
  unfold mulX; rw [Bool.and_true]; rfl
 have hy : mulX p q = true → X = true ∧ true = true := fun h => by
  have := h
  unfold mulX at this
  rw [← hX]
  exact fin_yes (k := okU (proN p.n p.d q.n q.d) (proD p.n p.d q.n q.d) (p.t + q.t) (p.b + q.b) (p.m + q.m) (p.c + q.c)) (by rw [Bool.and_true]; exact this)
 have ca := fun W (h : Ready W) => applyR_u 51 52 (enters Tryz.func51 (by decide) rfl) (enters Tryz.func52 (by decide) rfl) p.n p.d p.t p.b p.m p.c q.n q.d q.t q.b q.m q.c l1 l2 l3 l4 (zU true (p.t + q.t)) (zU true (p.b + q.b)) (zU true (p.m + q.m)) (zU true (p.c + q.c)) (eU true) (proN p.n p.d q.n q.d) (proD p.n p.d q.n q.d) (outE (mulB p.n p.d q.n q.d)) (fun x y W => product_u p.t p.b p.m p.c q.t q.b q.m q.c (okE_in (okU_parts x).1).1 (okE_in (okU_parts x).1).2.1 (okE_in (okU_parts x).1).2.2.1 (okE_in (okU_parts x).1).2.2.2 (okE_in (okU_parts y).1).1 (okE_in (okU_parts y).1).2.1 (okE_in (okU_parts y).1).2.2.1 (okE_in (okU_parts y).1).2.2.2 W) (fun _ _ W h => mul_q p.n p.d q.n q.d l1 l2 l3 l4 W h) W h
 have hX' : apX (okU p.n p.d p.t p.b p.m p.c) (okU q.n q.d q.t q.b q.m q.c) (eU true) (outE (mulB p.n p.d q.n q.d)) = X := hX
 rw [hX'] at ca
 have zp : ∀ (x : Bool) (s : ByteArray), s.size ≤ 1099511627776 → (pz x s).size ≤ 1099511627776 := fun x s h => by cases x <;> first | exact Nat.zero_le _ | exact h
 have ck : ∀ W, Ready W → Calls Tryz.prog 43 #[.agg #[.string (pz X (proN p.n p.d q.n q.d)), .string (pz X (proD p.n p.d q.n q.d))], .agg #[.int .i64 (zU X (zU true (p.t + q.t))), .int .i64 (zU X (zU true (p.b + q.b))), .int .i64 (zU X (zU true (p.m + q.m))), .int .i64 (zU X (zU true (p.c + q.c)))], .int .i64 (eU X)] W fun e w' => e = .returned (.tuple #[.agg #[.string (mulQt p q).n, .string (mulQt p q).d, .int .i64 (mulQt p q).t, .int .i64 (mulQt p q).b, .int .i64 (mulQt p q).m, .int .i64 (mulQt p q).c], .int .i64 (eU (mulX p q))]) ∧ Below W.heap.size W w' := fun W h => by
  have k := checked_u (pz X (proN p.n p.d q.n q.d)) (pz X (proD p.n p.d q.n q.d)) (zU X (zU true (p.t + q.t))) (zU X (zU true (p.b + q.b))) (zU X (zU true (p.m + q.m))) (zU X (zU true (p.c + q.c))) (eU X) (zp _ _ hz.1) (zp _ _ hz.2) W h
  rw [hk] at k
  have e1 : pz (mulX p q) (pz X (proN p.n p.d q.n q.d)) = (mulQt p q).n := (fin_pz (fun h => (hy h).1) _).trans (pick_n _ (mulQ0 p q)).symm
  have e2 : pz (mulX p q) (pz X (proD p.n p.d q.n q.d)) = (mulQt p q).d := (fin_pz (fun h => (hy h).1) _).trans (pick_d _ (mulQ0 p q)).symm
  have e3 : zU (mulX p q) (zU X (zU true (p.t + q.t))) = (mulQt p q).t := (fin_zU hy _).trans (pick_t _ (mulQ0 p q)).symm
  have e4 : zU (mulX p q) (zU X (zU true (p.b + q.b))) = (mulQt p q).b := (fin_zU hy _).trans (pick_b _ (mulQ0 p q)).symm
  have e5 : zU (mulX p q) (zU X (zU true (p.m + q.m))) = (mulQt p q).m := (fin_zU hy _).trans (pick_m _ (mulQ0 p q)).symm
  have e6 : zU (mulX p q) (zU X (zU true (p.c + q.c))) = (mulQt p q).c := (fin_zU hy _).trans (pick_c _ (mulQ0 p q)).symm
  rw [e1, e2, e3, e4, e5, e6] at k
  exact k
 clear hk hy hX hX' zp hz
 generalize pz X (proN p.n p.d q.n q.d) = AN at *
 generalize pz X (proD p.n p.d q.n q.d) = AD at *
 generalize zU X (zU true (p.t + q.t)) = A0 at *
 generalize zU X (zU true (p.b + q.b)) = A1 at *
 generalize zU X (zU true (p.m + q.m)) = A2 at *
 generalize zU X (zU true (p.c + q.c)) = A3 at *
 generalize eU X = AE at *
 generalize mulQt p q = r at *
 generalize eU (mulX p q) = RE at *
 obtain ⟨W0, hW0, b0, s0, hcc⟩ := lay3 w (.string p.n) [.string p.d, .int .i64 p.t, .int .i64 p.b, .int .i64 p.m, .int .i64 p.c] 27 (.string q.n) [.string q.d, .int .i64 q.t, .int .i64 q.b, .int .i64 q.m, .int .i64 q.c] 27 (.string ⟨#[]⟩) [.string ⟨#[]⟩, .int .i64 0, .int .i64 0, .int .i64 0, .int .i64 0] 27
 have HW := hid hW0; have B0 := hid b0; have HC := hid hcc; have HR := hid (hR.below b0); have CA := hid ca; have CK := hid ck
 clear hW0 b0 hcc s0 hR ca ck l1 l2 l3 l4 hp hq
 go_enter Tryz.func21, Tryz.ntmps21
 obtain ⟨⟨pa0, pa1, pa2, pa3, pa4, pa5⟩, _⟩ := six_facts (HC.out W0 (Below.refl _ _)).1
 obtain ⟨⟨pb0, pb1, pb2, pb3, pb4, pb5⟩, _⟩ := six_facts (HC.out W0 (Below.refl _ _)).2.1
 go_wp2_with (rw [HW.out])
 refine (CA.out _ HR.out).mono ?_
 rintro e z1 ⟨rfl, b1⟩
 have B1 := hid b1
 clear b1 pa0 pa1 pa2 pa3 pa4 pa5 pb0 pb1 pb2 pb3 pb4 pb5
 go_wp2_with fail
 refine (CK.out _ (HR.out.below B1.out)).mono ?_
 rintro e z2 ⟨rfl, b2⟩
 have B2 := hid (below_up B1.out b2)
 clear b2
 obtain ⟨y, hy⟩ : ∃ y, ((((((z2.setCell ⟨w.heap.size + 1 + 1, 0, none⟩ (.string r.n)).setCell ⟨w.heap.size + 1 + 1, 1, none⟩ (.string r.d)).setCell ⟨w.heap.size + 1 + 1, 2, none⟩ (.int .i64 r.t)).setCell ⟨w.heap.size + 1 + 1, 3, none⟩ (.int .i64 r.b)).setCell ⟨w.heap.size + 1 + 1, 4, none⟩ (.int .i64 r.m)).setCell ⟨w.heap.size + 1 + 1, 5, none⟩ (.int .i64 r.c)) = y := ⟨_, rfl⟩
 have KY := hid (show CellsAt y (w.heap.size + 1 + 1) [.string r.n, .string r.d, .int .i64 r.t, .int .i64 r.b, .int .i64 r.m, .int .i64 r.c] by rw [← hy]; exact put6 (HC.out z2 B2.out).2.2 _ _ _ _ _ _)
 have BY := hid (show Below w.heap.size w y by rw [← hy]; exact low6 (show w.heap.size ≤ w.heap.size + 1 + 1 by omega) (below_up B0.out B2.out) _ _ _ _ _ _)
 have HY := hid hy
 clear hy
 obtain ⟨⟨r0, r1, r2, r3, r4, r5⟩, ⟨r6, r7, r8, r9, ra, rb⟩⟩ := six_facts (HC.out z2 B2.out).2.2
 go_wp2_with (rw [HY.out])
 obtain ⟨⟨s0, s1, s2, s3, s4, s5⟩, _⟩ := six_facts KY.out
 exact bodyPost_ret (v := .tuple #[.agg #[.string r.n, .string r.d, .int .i64 r.t, .int .i64 r.b, .int .i64 r.m, .int .i64 r.c], .int .i64 RE]) (by simp [results, Tryz.results21, go_sem, s0, s1, s2, s3, s4, s5]) rfl ⟨rfl, BY.out⟩
theorem div_u (p q : Qt) (hp : p.short) (hq : q.short) (w : World) (hR : Ready w) : Calls Tryz.prog 23 #[.agg #[.string p.n, .string p.d, .int .i64 p.t, .int .i64 p.b, .int .i64 p.m, .int .i64 p.c], .agg #[.string q.n, .string q.d, .int .i64 q.t, .int .i64 q.b, .int .i64 q.m, .int .i64 q.c]] w fun e w' => e = .returned (.tuple #[.agg #[.string (divQt p q).n, .string (divQt p q).d, .int .i64 (divQt p q).t, .int .i64 (divQt p q).b, .int .i64 (divQt p q).m, .int .i64 (divQt p q).c], .int .i64 (eU (divX p q))]) ∧ Below w.heap.size w w' := by
 have l1 : p.n.size ≤ 1099511627776 := Nat.le_trans hp.1 (by decide); have l2 : p.d.size ≤ 1099511627776 := Nat.le_trans hp.2 (by decide)
 have l3 : q.n.size ≤ 1099511627776 := Nat.le_trans hq.1 (by decide); have l4 : q.d.size ≤ 1099511627776 := Nat.le_trans hq.2 (by decide)
 have hz := quo_size p.n p.d q.n q.d
 obtain ⟨X, hX⟩ : ∃ X, (apX p.ok q.ok (eU true) (outE (divB p.n p.d q.n q.d))) = X := ⟨_, rfl⟩
 have hk : (decide (eU X = 0) && okU (pz X (quoN p.n p.d q.n q.d)) (pz X (quoD p.n p.d q.n q.d)) (zU X (zU true (p.t - q.t))) (zU X (zU true (p.b - q.b))) (zU X (zU true (p.m - q.m))) (zU X (zU true (p.c - q.c)))) = divX p q := by
  rw [← hX]
  refine (fin_ok p.ok q.ok true (divB p.n p.d q.n q.d) (quoN p.n p.d q.n q.d) (quoD p.n p.d q.n q.d) (p.t - q.t) (p.b - q.b) (p.m - q.m) (p.c - q.c)).trans ?_
  unfold divX; rw [Bool.and_true]; rfl
 have hy : divX p q = true → X = true ∧ true = true := fun h => by
  have := h
  unfold divX at this
  rw [← hX]
  exact fin_yes (k := okU (quoN p.n p.d q.n q.d) (quoD p.n p.d q.n q.d) (p.t - q.t) (p.b - q.b) (p.m - q.m) (p.c - q.c)) (by rw [Bool.and_true]; exact this)
 have ca := fun W (h : Ready W) => applyR_u 55 56 (enters Tryz.func55 (by decide) rfl) (enters Tryz.func56 (by decide) rfl) p.n p.d p.t p.b p.m p.c q.n q.d q.t q.b q.m q.c l1 l2 l3 l4 (zU true (p.t - q.t)) (zU true (p.b - q.b)) (zU true (p.m - q.m)) (zU true (p.c - q.c)) (eU true) (quoN p.n p.d q.n q.d) (quoD p.n p.d q.n q.d) (outE (divB p.n p.d q.n q.d)) (fun x y W => quotient_u p.t p.b p.m p.c q.t q.b q.m q.c (okE_in (okU_parts x).1).1 (okE_in (okU_parts x).1).2.1 (okE_in (okU_parts x).1).2.2.1 (okE_in (okU_parts x).1).2.2.2 (okE_in (okU_parts y).1).1 (okE_in (okU_parts y).1).2.1 (okE_in (okU_parts y).1).2.2.1 (okE_in (okU_parts y).1).2.2.2 W) (fun _ _ W h => div_q p.n p.d q.n q.d l1 l2 l3 l4 W h) W h
 have hX' : apX (okU p.n p.d p.t p.b p.m p.c) (okU q.n q.d q.t q.b q.m q.c) (eU true) (outE (divB p.n p.d q.n q.d)) = X := hX
 rw [hX'] at ca
 have zp : ∀ (x : Bool) (s : ByteArray), s.size ≤ 1099511627776 → (pz x s).size ≤ 1099511627776 := fun x s h => by cases x <;> first | exact Nat.zero_le _ | exact h
 have ck : ∀ W, Ready W → Calls Tryz.prog 43 #[.agg #[.string (pz X (quoN p.n p.d q.n q.d)), .string (pz X (quoD p.n p.d q.n q.d))], .agg #[.int .i64 (zU X (zU true (p.t - q.t))), .int .i64 (zU X (zU true (p.b - q.b))), .int .i64 (zU X (zU true (p.m - q.m))), .int .i64 (zU X (zU true (p.c - q.c)))], .int .i64 (eU X)] W fun e w' => e = .returned (.tuple #[.agg #[.string (divQt p q).n, .string (divQt p q).d, .int .i64 (divQt p q).t, .int .i64 (divQt p q).b, .int .i64 (divQt p q).m, .int .i64 (divQt p q).c], .int .i64 (eU (divX p q))]) ∧ Below W.heap.size W w' := fun W h => by
  have k := checked_u (pz X (quoN p.n p.d q.n q.d)) (pz X (quoD p.n p.d q.n q.d)) (zU X (zU true (p.t - q.t))) (zU X (zU true (p.b - q.b))) (zU X (zU true (p.m - q.m))) (zU X (zU true (p.c - q.c))) (eU X) (zp _ _ hz.1) (zp _ _ hz.2) W h
  rw [hk] at k
  have e1 : pz (divX p q) (pz X (quoN p.n p.d q.n q.d)) = (divQt p q).n := (fin_pz (fun h => (hy h).1) _).trans (pick_n _ (divQ0 p q)).symm
  have e2 : pz (divX p q) (pz X (quoD p.n p.d q.n q.d)) = (divQt p q).d := (fin_pz (fun h => (hy h).1) _).trans (pick_d _ (divQ0 p q)).symm
  have e3 : zU (divX p q) (zU X (zU true (p.t - q.t))) = (divQt p q).t := (fin_zU hy _).trans (pick_t _ (divQ0 p q)).symm
  have e4 : zU (divX p q) (zU X (zU true (p.b - q.b))) = (divQt p q).b := (fin_zU hy _).trans (pick_b _ (divQ0 p q)).symm
  have e5 : zU (divX p q) (zU X (zU true (p.m - q.m))) = (divQt p q).m := (fin_zU hy _).trans (pick_m _ (divQ0 p q)).symm
  have e6 : zU (divX p q) (zU X (zU true (p.c - q.c))) = (divQt p q).c := (fin_zU hy _).trans (pick_c _ (divQ0 p q)).symm
  rw [e1, e2, e3, e4, e5, e6] at k
  exact k
 clear hk hy hX hX' zp hz
 generalize pz X (quoN p.n p.d q.n q.d) = AN at *
 generalize pz X (quoD p.n p.d q.n q.d) = AD at *
 generalize zU X (zU true (p.t - q.t)) = A0 at *
 generalize zU X (zU true (p.b - q.b)) = A1 at *
 generalize zU X (zU true (p.m - q.m)) = A2 at *
 generalize zU X (zU true (p.c - q.c)) = A3 at *
 generalize eU X = AE at *
 generalize divQt p q = r at *
 generalize eU (divX p q) = RE at *
 obtain ⟨W0, hW0, b0, s0, hcc⟩ := lay3 w (.string p.n) [.string p.d, .int .i64 p.t, .int .i64 p.b, .int .i64 p.m, .int .i64 p.c] 27 (.string q.n) [.string q.d, .int .i64 q.t, .int .i64 q.b, .int .i64 q.m, .int .i64 q.c] 27 (.string ⟨#[]⟩) [.string ⟨#[]⟩, .int .i64 0, .int .i64 0, .int .i64 0, .int .i64 0] 27
 have HW := hid hW0; have B0 := hid b0; have HC := hid hcc; have HR := hid (hR.below b0); have CA := hid ca; have CK := hid ck
 clear hW0 b0 hcc s0 hR ca ck l1 l2 l3 l4 hp hq
 go_enter Tryz.func23, Tryz.ntmps23
 obtain ⟨⟨pa0, pa1, pa2, pa3, pa4, pa5⟩, _⟩ := six_facts (HC.out W0 (Below.refl _ _)).1
 obtain ⟨⟨pb0, pb1, pb2, pb3, pb4, pb5⟩, _⟩ := six_facts (HC.out W0 (Below.refl _ _)).2.1
 go_wp2_with (rw [HW.out])
 refine (CA.out _ HR.out).mono ?_
 rintro e z1 ⟨rfl, b1⟩
 have B1 := hid b1
 clear b1 pa0 pa1 pa2 pa3 pa4 pa5 pb0 pb1 pb2 pb3 pb4 pb5
 go_wp2_with fail
 refine (CK.out _ (HR.out.below B1.out)).mono ?_
 rintro e z2 ⟨rfl, b2⟩
 have B2 := hid (below_up B1.out b2)
 clear b2
 obtain ⟨y, hy⟩ : ∃ y, ((((((z2.setCell ⟨w.heap.size + 1 + 1, 0, none⟩ (.string r.n)).setCell ⟨w.heap.size + 1 + 1, 1, none⟩ (.string r.d)).setCell ⟨w.heap.size + 1 + 1, 2, none⟩ (.int .i64 r.t)).setCell ⟨w.heap.size + 1 + 1, 3, none⟩ (.int .i64 r.b)).setCell ⟨w.heap.size + 1 + 1, 4, none⟩ (.int .i64 r.m)).setCell ⟨w.heap.size + 1 + 1, 5, none⟩ (.int .i64 r.c)) = y := ⟨_, rfl⟩
 have KY := hid (show CellsAt y (w.heap.size + 1 + 1) [.string r.n, .string r.d, .int .i64 r.t, .int .i64 r.b, .int .i64 r.m, .int .i64 r.c] by rw [← hy]; exact put6 (HC.out z2 B2.out).2.2 _ _ _ _ _ _)
 have BY := hid (show Below w.heap.size w y by rw [← hy]; exact low6 (show w.heap.size ≤ w.heap.size + 1 + 1 by omega) (below_up B0.out B2.out) _ _ _ _ _ _)
 have HY := hid hy
 clear hy
 obtain ⟨⟨r0, r1, r2, r3, r4, r5⟩, ⟨r6, r7, r8, r9, ra, rb⟩⟩ := six_facts (HC.out z2 B2.out).2.2
 go_wp2_with (rw [HY.out])
 obtain ⟨⟨s0, s1, s2, s3, s4, s5⟩, _⟩ := six_facts KY.out
 exact bodyPost_ret (v := .tuple #[.agg #[.string r.n, .string r.d, .int .i64 r.t, .int .i64 r.b, .int .i64 r.m, .int .i64 r.c], .int .i64 RE]) (by simp [results, Tryz.results23, go_sem, s0, s1, s2, s3, s4, s5]) rfl ⟨rfl, BY.out⟩
theorem compare_u (an ad bn bd : ByteArray) (h1 : an.size ≤ 1099511627776) (h2 : ad.size ≤ 1099511627776) (h3 : bn.size ≤ 1099511627776) (h4 : bd.size ≤ 1099511627776) (w : World) (hR : Ready w) : Calls Tryz.prog 59 #[.agg #[.string an, .string ad], .agg #[.string bn, .string bd]] w fun e w' => e = .returned (.tuple #[.int .i64 (cmpQ an ad bn bd), .int .i64 0]) ∧ Below w.heap.size w w' := by
 obtain ⟨W0, hW0, b0, s0, hcc⟩ := lay2 w (.string an) [.string ad] 23 (.string bn) [.string bd] 23
 have cc := fun W (h : Ready W) => cmp_q an ad bn bd h1 h2 h3 h4 W h
 have HW := hid hW0; have B0 := hid b0; have HC := hid hcc; have HR := hid (hR.below b0); have CC := hid cc
 clear hW0 b0 hcc s0 hR cc
 generalize cmpQ an ad bn bd = V at *
 go_enter Tryz.func59, Tryz.ntmps59
 obtain ⟨⟨pa0, pa1⟩, _⟩ := two_facts (HC.out W0 (Below.refl _ _)).1
 obtain ⟨⟨pb0, pb1⟩, _⟩ := two_facts (HC.out W0 (Below.refl _ _)).2
 go_wp2_with (rw [HW.out])
 refine (CC.out _ HR.out).mono ?_
 rintro e z1 ⟨rfl, b1⟩
 have P1 := hid (below_up B0.out b1)
 clear b1 pa0 pa1 pb0 pb1
 go_wp2
 go_ret2
 exact ⟨rfl, P1.out⟩
theorem cmp_u (p q : Qt) (hp : p.short) (hq : q.short) (w : World) (hR : Ready w) : Calls Tryz.prog 25 #[.agg #[.string p.n, .string p.d, .int .i64 p.t, .int .i64 p.b, .int .i64 p.m, .int .i64 p.c], .agg #[.string q.n, .string q.d, .int .i64 q.t, .int .i64 q.b, .int .i64 q.m, .int .i64 q.c]] w fun e w' => e = .returned (.tuple #[.int .i64 (cmpV p q), .int .i64 (eU (cmpX p q))]) ∧ Below w.heap.size w w' := by
 have l1 : p.n.size ≤ 1099511627776 := Nat.le_trans hp.1 (by decide); have l2 : p.d.size ≤ 1099511627776 := Nat.le_trans hp.2 (by decide)
 have l3 : q.n.size ≤ 1099511627776 := Nat.le_trans hq.1 (by decide); have l4 : q.d.size ≤ 1099511627776 := Nat.le_trans hq.2 (by decide)
 have ca := fun W (h : Ready W) => applyI_u 59 46 (enters Tryz.func59 (by decide) rfl) (enters Tryz.func46 (by decide) rfl) p.n p.d p.t p.b p.m p.c q.n q.d q.t q.b q.m q.c l1 l2 l3 l4 (zU (sameB p q) p.t) (zU (sameB p q) p.b) (zU (sameB p q) p.m) (zU (sameB p q) p.c) (eU (sameB p q)) (cmpQ p.n p.d q.n q.d) 0 (fun _ _ W => same_u p.t p.b p.m p.c q.t q.b q.m q.c W) (fun _ _ W h => compare_u p.n p.d q.n q.d l1 l2 l3 l4 W h) W h
 have hX : apX (okU p.n p.d p.t p.b p.m p.c) (okU q.n q.d q.t q.b q.m q.c) (eU (sameB p q)) 0 = cmpX p q := by
  show apX p.ok q.ok (eU (sameB p q)) 0 = (p.ok && (q.ok && sameB p q))
  cases p.ok <;> cases q.ok <;> cases sameB p q <;> rfl
 rw [hX] at ca
 rw [show zU (cmpX p q) (cmpQ p.n p.d q.n q.d) = cmpV p q from rfl] at ca
 generalize cmpV p q = V at *
 generalize eU (cmpX p q) = RE at *
 generalize zU (cmpX p q) (zU (sameB p q) p.t) = A0 at *
 generalize zU (cmpX p q) (zU (sameB p q) p.b) = A1 at *
 generalize zU (cmpX p q) (zU (sameB p q) p.m) = A2 at *
 generalize zU (cmpX p q) (zU (sameB p q) p.c) = A3 at *
 obtain ⟨W0, hW0, b0, s0, hcc⟩ := lay2 w (.string p.n) [.string p.d, .int .i64 p.t, .int .i64 p.b, .int .i64 p.m, .int .i64 p.c] 27 (.string q.n) [.string q.d, .int .i64 q.t, .int .i64 q.b, .int .i64 q.m, .int .i64 q.c] 27
 have HW := hid hW0; have B0 := hid b0; have HC := hid hcc; have HR := hid (hR.below b0); have CA := hid ca
 clear hW0 b0 hcc s0 hR ca l1 l2 l3 l4 hp hq hX
 go_enter Tryz.func25, Tryz.ntmps25
 obtain ⟨⟨pa0, pa1, pa2, pa3, pa4, pa5⟩, _⟩ := six_facts (HC.out W0 (Below.refl _ _)).1
 obtain ⟨⟨pb0, pb1, pb2, pb3, pb4, pb5⟩, _⟩ := six_facts (HC.out W0 (Below.refl _ _)).2
 go_wp2_with (rw [HW.out])
 refine (CA.out _ HR.out).mono ?_
 rintro e z1 ⟨rfl, b1⟩
 have B1 := hid b1
 clear b1 pa0 pa1 pa2 pa3 pa4 pa5 pb0 pb1 pb2 pb3 pb4 pb5
 obtain ⟨z2, hz2, b2, s2, f2⟩ := lay1 z1 (.int .i64 A0) [.int .i64 A1, .int .i64 A2, .int .i64 A3] 25
 have V2 := hid hz2
 have P2 := hid (below_up B0.out (below_up B1.out b2))
 clear hz2 b2 f2 s2
 go_wp2_with (rw [V2.out])
 go_ret2
 exact ⟨rfl, P2.out⟩
theorem in_any (n : Int) (w : World) : Calls Tryz.prog 42 #[.int .i64 n] w fun e w' => e = .returned (.bool (decide (InE n))) ∧ w = w' := by
 by_cases h1 : -3 ≤ n
 · by_cases h2 : n ≤ 3
   · rw [decide_eq_true (show InE n from ⟨h1, h2⟩)]
     go_enter Tryz.func42, Tryz.ntmps42
     go_wp2
     go_ret
     exact ⟨rfl, rfl⟩
   rw [decide_eq_false (fun h : InE n => h2 h.2)]
   go_enter Tryz.func42, Tryz.ntmps42
   go_wp2
   go_ret
   exact ⟨rfl, rfl⟩
 rw [decide_eq_false (fun h : InE n => h1 h.1)]
 go_enter Tryz.func42, Tryz.ntmps42
 go_wp2
 go_ret
 exact ⟨rfl, rfl⟩
theorem box_unit (w : World) (t b m c : Int) : ∃ W0, w.alloc (.cells #[.int .i64 t, .int .i64 b, .int .i64 m, .int .i64 c] 25) = W0 ∧ Below w.heap.size w W0 ∧
 ∀ W, Below W0.heap.size W0 W → CellsAt W w.heap.size [.int .i64 t, .int .i64 b, .int .i64 m, .int .i64 c] := by
 obtain ⟨W1, h1⟩ : ∃ W, w.alloc (.cells #[.int .i64 t, .int .i64 b, .int .i64 m, .int .i64 c] 25) = W := ⟨_, rfl⟩
 have b1 : Below w.heap.size w W1 := by rw [← h1]; exact (Below.refl _ _).alloc (Nat.le_refl _) _
 have k1 := cellsAt_of (vs := [.int .i64 t, .int .i64 b, .int .i64 m, .int .i64 c]) (heap_alloc_new w (.cells #[.int .i64 t, .int .i64 b, .int .i64 m, .int .i64 c] 25))
 rw [h1] at k1
 exact ⟨W1, h1, b1, fun W hb => k1.below hb⟩
theorem box_qty (w : World) (n d : ByteArray) (t b m c : Int) : ∃ W0, w.alloc (.cells #[.string n, .string d, .int .i64 t, .int .i64 b, .int .i64 m, .int .i64 c] 27) = W0 ∧ Below w.heap.size w W0 ∧
 ∀ W, Below W0.heap.size W0 W → CellsAt W w.heap.size [.string n, .string d, .int .i64 t, .int .i64 b, .int .i64 m, .int .i64 c] := by
 obtain ⟨W1, h1⟩ : ∃ W, w.alloc (.cells #[.string n, .string d, .int .i64 t, .int .i64 b, .int .i64 m, .int .i64 c] 27) = W := ⟨_, rfl⟩
 have b1 : Below w.heap.size w W1 := by rw [← h1]; exact (Below.refl _ _).alloc (Nat.le_refl _) _
 have k1 := cellsAt_of (vs := [.string n, .string d, .int .i64 t, .int .i64 b, .int .i64 m, .int .i64 c]) (heap_alloc_new w (.cells #[.string n, .string d, .int .i64 t, .int .i64 b, .int .i64 m, .int .i64 c] 27))
 rw [h1] at k1
 exact ⟨W1, h1, b1, fun W hb => k1.below hb⟩
theorem qty_facts {W : World} {B : Nat} {n d : ByteArray} {t b m c : Int} (h : CellsAt W B [.string n, .string d, .int .i64 t, .int .i64 b, .int .i64 m, .int .i64 c]) :
 (W.cell? ⟨B, 0, none⟩ = some (.string n) ∧ W.cell? ⟨B, 1, none⟩ = some (.string d) ∧ W.cell? ⟨B, 2, none⟩ = some (.int .i64 t) ∧ W.cell? ⟨B, 3, none⟩ = some (.int .i64 b) ∧ W.cell? ⟨B, 4, none⟩ = some (.int .i64 m) ∧ W.cell? ⟨B, 5, none⟩ = some (.int .i64 c)) ∧
  (W.frozen? ⟨B, 0, none⟩ = false ∧ W.frozen? ⟨B, 1, none⟩ = false ∧ W.frozen? ⟨B, 2, none⟩ = false ∧ W.frozen? ⟨B, 3, none⟩ = false ∧ W.frozen? ⟨B, 4, none⟩ = false ∧ W.frozen? ⟨B, 5, none⟩ = false) :=
 ⟨⟨(h 0 (by simp)).1, (h 1 (by simp)).1, (h 2 (by simp)).1, (h 3 (by simp)).1, (h 4 (by simp)).1, (h 5 (by simp)).1⟩, (h 0 (by simp)).2, (h 1 (by simp)).2, (h 2 (by simp)).2, (h 3 (by simp)).2, (h 4 (by simp)).2, (h 5 (by simp)).2⟩
theorem unit_facts {W : World} {B : Nat} {t b m c : Int} (h : CellsAt W B [.int .i64 t, .int .i64 b, .int .i64 m, .int .i64 c]) :
 (W.cell? ⟨B, 0, none⟩ = some (.int .i64 t) ∧ W.cell? ⟨B, 1, none⟩ = some (.int .i64 b) ∧ W.cell? ⟨B, 2, none⟩ = some (.int .i64 m) ∧ W.cell? ⟨B, 3, none⟩ = some (.int .i64 c)) ∧
  (W.frozen? ⟨B, 0, none⟩ = false ∧ W.frozen? ⟨B, 1, none⟩ = false ∧ W.frozen? ⟨B, 2, none⟩ = false ∧ W.frozen? ⟨B, 3, none⟩ = false) :=
 ⟨⟨(h 0 (by simp)).1, (h 1 (by simp)).1, (h 2 (by simp)).1, (h 3 (by simp)).1⟩, (h 0 (by simp)).2, (h 1 (by simp)).2, (h 2 (by simp)).2, (h 3 (by simp)).2⟩
theorem validUnitR_any (t b m c : Int) (w : World) : Calls Tryz.prog 16 #[.agg #[.int .i64 t, .int .i64 b, .int .i64 m, .int .i64 c]] w fun e w' => e = .returned (.bool (okE t b m c)) ∧ Below w.heap.size w w' := by
 obtain ⟨W0, hW0, b0, hcc⟩ := box_unit w t b m c
 obtain ⟨⟨c0, c1, c2, c3⟩, _⟩ := unit_facts (hcc W0 (Below.refl _ _))
 have i0 := fun W => in_any t W
 have i1 := fun W => in_any b W
 have i2 := fun W => in_any m W
 have i3 := fun W => in_any c W
 unfold okE
 generalize decide (InE t) = x0 at *
 generalize decide (InE b) = x1 at *
 generalize decide (InE m) = x2 at *
 generalize decide (InE c) = x3 at *
 have HW := hid hW0; have B0 := hid b0; have I0 := hid i0; have I1 := hid i1; have I2 := hid i2; have I3 := hid i3
 clear hW0 b0 hcc i0 i1 i2 i3
 go_enter Tryz.func16, Tryz.ntmps16
 go_wp2_with (rw [HW.out])
 refine (I0.out _).mono ?_
 rintro e z1 ⟨rfl, rfl⟩
 cases x0 with
 | false =>
  go_wp2
  go_ret
  exact ⟨rfl, B0.out⟩
 | true =>
  go_wp2_with fail
  refine (I1.out _).mono ?_
  rintro e z1 ⟨rfl, rfl⟩
  cases x1 with
  | false =>
   go_wp2
   go_ret
   exact ⟨rfl, B0.out⟩
  | true =>
   go_wp2_with fail
   refine (I2.out _).mono ?_
   rintro e z1 ⟨rfl, rfl⟩
   cases x2 with
   | false =>
    go_wp2
    go_ret
    exact ⟨rfl, B0.out⟩
   | true =>
    go_wp2_with fail
    refine (I3.out _).mono ?_
    rintro e z1 ⟨rfl, rfl⟩
    go_wp2
    go_ret
    exact ⟨rfl, B0.out⟩
theorem bytes_head {n : ByteArray} (h : 0 < n.size) : (bytesL n).head? = some (n[0].toNat) := by
 obtain ⟨⟨l⟩⟩ := n
 cases l with
 | nil => exact absurd h (by decide)
 | cons a r => rfl
def negT (n : ByteArray) : Bool := decide ((bytesL n).head? = some 45)
theorem negT_zero {n : ByteArray} (h : ¬ 0 < n.size) : negT n = false := by
 have : n = ⟨#[]⟩ := ByteArray.ext (Array.eq_empty_of_size_eq_zero (show n.data.size = 0 from Nat.eq_zero_of_not_pos h))
 subst this
 rfl
theorem negT_minus {n : ByteArray} (h : 0 < n.size) (h1 : n[0].toNat = 45) : negT n = true := by unfold negT; rw [bytes_head h, h1]; rfl
theorem negT_plain {n : ByteArray} (h : 0 < n.size) (h1 : n[0].toNat ≠ 45) : negT n = false := by
 unfold negT
 rw [bytes_head h]
 exact decide_eq_false (fun e => h1 (by injection e))
theorem negT_yes {n : ByteArray} (h : negT n = true) : 0 < n.size ∧ lenT n = n.size - 1 := by
 have h2 := of_decide_eq_true h
 refine ⟨?_, by unfold lenT; rw [if_pos h2]⟩
 rcases Nat.eq_zero_or_pos n.size with h0 | h0
 · have := negT_zero (n := n) (by omega)
   rw [h] at this
   cases this
 exact h0
theorem negT_no {n : ByteArray} (h : negT n = false) : lenT n = n.size := by unfold lenT; rw [if_neg (of_decide_eq_false h)]
theorem fitsR_any (n d : ByteArray) (hn : n.size ≤ 1099511627776) (hd : d.size ≤ 1099511627776) (w : World) : Calls Tryz.prog 40 #[.agg #[.string n, .string d]] w fun e w' => e = .returned (.bool (fit60 n d)) ∧ Below w.heap.size w w' := by
 obtain ⟨W0, hW0, b0, hcc⟩ := box_one w n d
 have cv := fun W => validR4_any n d hn hd W
 unfold fit60
 generalize validQ n d = v at *
 have HW := hid hW0; have B0 := hid b0; have CV := hid cv; have HC := hid hcc
 clear hW0 b0 hcc cv
 by_cases h2 : lenT n ≤ 60
 · rw [decide_eq_true h2, Bool.true_and]
   have H2 := hid h2
   clear h2
   by_cases h3 : d.size ≤ 60
   · rw [decide_eq_true h3, Bool.true_and]
     have H3 := hid h3
     clear h3
     go_enter Tryz.func40, Tryz.ntmps40
     obtain ⟨c0, c1, _, _⟩ := HC.out W0 (Below.refl _ _)
     go_upto_region 2 with (rw [HW.out])
     go_cut [14] from 7 to 14 (fun sl wx => sl = .bool (negT n) ∧ wx = W0)
     case first =>
      by_cases h0 : 0 < n.size
      · have e0 : (0 : Int) < n.size := by omega
        by_cases h1 : n[0].toNat = 45
        · have HL := hid (negT_minus h0 h1)
          have e1 : ((n[0].toNat : Int) == 45) = true := by rw [h1]; rfl
          clear h1
          go_wp2_with fail
          go_meet
          exact ⟨by rw [HL.out], rfl⟩
        have HL := hid (negT_plain h0 h1)
        have e1 : ((n[0].toNat : Int) == 45) = false := by rw [beq_eq_false_iff_ne]; omega
        clear h1
        go_wp2_with fail
        go_meet
        exact ⟨by rw [HL.out], rfl⟩
      have HL := hid (negT_zero h0)
      have e0 : ¬ (0 : Int) < n.size := by omega
      clear h0
      go_wp2_with fail
      go_meet
      exact ⟨by rw [HL.out], rfl⟩
     obtain ⟨rfl, rfl⟩ := hcut
     have h2 := H2.out
     have h3 := H3.out
     cases hng : negT n with
     | true =>
      obtain ⟨hp, hl⟩ := negT_yes hng
      have e2 : (n.size : Int) - 1 ≤ 60 := by omega
      clear hng hl h2
      have e3 : (d.size : Int) ≤ 60 := by omega
      clear h3
      go_wp2_with fail
      refine (CV.out _).mono ?_
      rintro e z1 ⟨rfl, b1⟩
      have P1 := hid (below_up B0.out b1)
      clear b1
      go_wp2
      go_ret
      exact ⟨rfl, P1.out⟩
     | false =>
      have hl := negT_no hng
      have e2 : (n.size : Int) ≤ 60 := by omega
      clear hng hl h2
      have e3 : (d.size : Int) ≤ 60 := by omega
      clear h3
      go_wp2_with fail
      refine (CV.out _).mono ?_
      rintro e z1 ⟨rfl, b1⟩
      have P1 := hid (below_up B0.out b1)
      clear b1
      go_wp2
      go_ret
      exact ⟨rfl, P1.out⟩
   rw [decide_eq_false h3, Bool.false_and]
   have H3 := hid h3
   clear h3
   go_enter Tryz.func40, Tryz.ntmps40
   obtain ⟨c0, c1, _, _⟩ := HC.out W0 (Below.refl _ _)
   go_upto_region 2 with (rw [HW.out])
   go_cut [14] from 7 to 14 (fun sl wx => sl = .bool (negT n) ∧ wx = W0)
   case first =>
    by_cases h0 : 0 < n.size
    · have e0 : (0 : Int) < n.size := by omega
      by_cases h1 : n[0].toNat = 45
      · have HL := hid (negT_minus h0 h1)
        have e1 : ((n[0].toNat : Int) == 45) = true := by rw [h1]; rfl
        clear h1
        go_wp2_with fail
        go_meet
        exact ⟨by rw [HL.out], rfl⟩
      have HL := hid (negT_plain h0 h1)
      have e1 : ((n[0].toNat : Int) == 45) = false := by rw [beq_eq_false_iff_ne]; omega
      clear h1
      go_wp2_with fail
      go_meet
      exact ⟨by rw [HL.out], rfl⟩
    have HL := hid (negT_zero h0)
    have e0 : ¬ (0 : Int) < n.size := by omega
    clear h0
    go_wp2_with fail
    go_meet
    exact ⟨by rw [HL.out], rfl⟩
   obtain ⟨rfl, rfl⟩ := hcut
   have h2 := H2.out
   have h3 := H3.out
   cases hng : negT n with
   | true =>
    obtain ⟨hp, hl⟩ := negT_yes hng
    have e2 : (n.size : Int) - 1 ≤ 60 := by omega
    clear hng hl h2
    have e3 : ¬ (d.size : Int) ≤ 60 := by omega
    clear h3
    go_wp2
    go_ret
    exact ⟨rfl, B0.out⟩
   | false =>
    have hl := negT_no hng
    have e2 : (n.size : Int) ≤ 60 := by omega
    clear hng hl h2
    have e3 : ¬ (d.size : Int) ≤ 60 := by omega
    clear h3
    go_wp2
    go_ret
    exact ⟨rfl, B0.out⟩
 rw [decide_eq_false h2, Bool.false_and]
 have H2 := hid h2
 clear h2
 go_enter Tryz.func40, Tryz.ntmps40
 obtain ⟨c0, c1, _, _⟩ := HC.out W0 (Below.refl _ _)
 go_upto_region 2 with (rw [HW.out])
 go_cut [14] from 7 to 14 (fun sl wx => sl = .bool (negT n) ∧ wx = W0)
 case first =>
  by_cases h0 : 0 < n.size
  · have e0 : (0 : Int) < n.size := by omega
    by_cases h1 : n[0].toNat = 45
    · have HL := hid (negT_minus h0 h1)
      have e1 : ((n[0].toNat : Int) == 45) = true := by rw [h1]; rfl
      clear h1
      go_wp2_with fail
      go_meet
      exact ⟨by rw [HL.out], rfl⟩
    have HL := hid (negT_plain h0 h1)
    have e1 : ((n[0].toNat : Int) == 45) = false := by rw [beq_eq_false_iff_ne]; omega
    clear h1
    go_wp2_with fail
    go_meet
    exact ⟨by rw [HL.out], rfl⟩
  have HL := hid (negT_zero h0)
  have e0 : ¬ (0 : Int) < n.size := by omega
  clear h0
  go_wp2_with fail
  go_meet
  exact ⟨by rw [HL.out], rfl⟩
 obtain ⟨rfl, rfl⟩ := hcut
 have h2 := H2.out
 cases hng : negT n with
 | true =>
  obtain ⟨hp, hl⟩ := negT_yes hng
  have e2 : ¬ (n.size : Int) - 1 ≤ 60 := by omega
  clear hng hl h2
  go_wp2
  go_ret
  exact ⟨rfl, B0.out⟩
 | false =>
  have hl := negT_no hng
  have e2 : ¬ (n.size : Int) ≤ 60 := by omega
  clear hng hl h2
  go_wp2
  go_ret
  exact ⟨rfl, B0.out⟩
theorem validUR_any (n d : ByteArray) (t b m c : Int) (hn : n.size ≤ 1099511627776) (hd : d.size ≤ 1099511627776) (w : World) : Calls Tryz.prog 14 #[.agg #[.string n, .string d, .int .i64 t, .int .i64 b, .int .i64 m, .int .i64 c]] w fun e w' => e = .returned (.bool (okU n d t b m c)) ∧ Below w.heap.size w w' := by
 obtain ⟨W0, hW0, b0, hcc⟩ := box_qty w n d t b m c
 have cu := fun W => validUnitR_any t b m c W
 have cf := fun W => fitsR_any n d hn hd W
 unfold okU
 generalize okE t b m c = x at *
 generalize fit60 n d = y at *
 have HW := hid hW0; have B0 := hid b0; have CU := hid cu; have CF := hid cf; have HC := hid hcc
 clear hW0 b0 hcc cu cf
 cases x with
 | false =>
  rw [Bool.false_and]
  go_enter Tryz.func14, Tryz.ntmps14
  obtain ⟨⟨c0, c1, c2, c3, c4, c5⟩, _⟩ := qty_facts (HC.out W0 (Below.refl _ _))
  go_wp2_with (rw [HW.out])
  refine (CU.out _).mono ?_
  rintro e z1 ⟨rfl, b1⟩
  have P1 := hid (below_up B0.out b1)
  clear b1 c0 c1 c2 c3 c4 c5
  go_wp2
  go_ret
  exact ⟨rfl, P1.out⟩
 | true =>
  rw [Bool.true_and]
  go_enter Tryz.func14, Tryz.ntmps14
  obtain ⟨⟨c0, c1, c2, c3, c4, c5⟩, _⟩ := qty_facts (HC.out W0 (Below.refl _ _))
  go_wp2_with (rw [HW.out])
  refine (CU.out _).mono ?_
  rintro e z1 ⟨rfl, b1⟩
  have P1 := hid (below_up B0.out b1)
  have B1 := hid b1
  clear b1 c0 c1 c2 c3 c4 c5
  obtain ⟨⟨c0, c1, c2, c3, c4, c5⟩, _⟩ := qty_facts (HC.out z1 B1.out)
  go_wp2_with fail
  refine (CF.out _).mono ?_
  rintro e z2 ⟨rfl, b2⟩
  have P2 := hid (below_up P1.out b2)
  clear b2 c0 c1 c2 c3 c4 c5
  go_wp2
  go_ret
  exact ⟨rfl, P2.out⟩
def partT (i : Nat) (n : Int) : ByteArray := byteL (partL i n)
theorem partT_size {i : Nat} (hi : i < 4) {n : Int} (hn : InE n) : (partT i n).size ≤ 8 := by unfold partT; rw [byteL_size]; exact part_len' hi hn
theorem part_one {i : Nat} {wd : ByteArray} (hw : bytesL wd = wordL i) : (⟨#[32]⟩ : ByteArray) ++ wd = partT i 1 := by
 refine bytesL_inj ?_
 have hlt : ∀ x ∈ partL i 1, x < 256 := by
  show ∀ x ∈ 32 :: wordL i, x < 256
  rw [← hw]
  intro x hx
  rcases List.mem_cons.1 hx with rfl | hx
  · omega
  unfold bytesL at hx; obtain ⟨y, _, rfl⟩ := List.mem_map.1 hx; exact y.toNat_lt
 unfold partT
 rw [bytesL_byteL hlt, bytesL_append, hw]
 rfl
theorem part_more {i : Nat} {n : Int} (h0 : n ≠ 0) (h1 : n ≠ 1) {wd : ByteArray} (hw : bytesL wd = wordL i) : (⟨#[32]⟩ : ByteArray) ++ wd ++ ⟨#[94]⟩ ++ textI n = partT i n := by
 refine bytesL_inj ?_
 have e : partL i n = 32 :: (wordL i ++ 94 :: bytesL (textI n)) := by unfold partL; rw [if_neg h0, if_neg h1]
 have hb : ∀ s : ByteArray, ∀ x ∈ bytesL s, x < 256 := fun s x hx => by unfold bytesL at hx; obtain ⟨y, _, rfl⟩ := List.mem_map.1 hx; exact y.toNat_lt
 have hlt : ∀ x ∈ partL i n, x < 256 := by
  rw [e, ← hw]
  intro x hx
  rcases List.mem_cons.1 hx with rfl | hx
  · omega
  rcases List.mem_append.1 hx with hx | hx
  · exact hb _ x hx
  rcases List.mem_cons.1 hx with rfl | hx
  · omega
  exact hb _ x hx
 unfold partT
 rw [bytesL_byteL hlt, e, bytesL_append, bytesL_append, bytesL_append, hw]
 show [32] ++ wordL i ++ [94] ++ bytesL (textI n) = _
 simp
theorem printU_text {n d : ByteArray} {t b m c : Int} (h : okU n d t b m c = true) : printB n d ++ partT 0 t ++ partT 1 b ++ partT 2 m ++ partT 3 c = printU n d t b m c := by
 obtain ⟨ht, hb, hm, hc⟩ := okE_in (okU_parts h).1
 unfold printU
 rw [if_pos h]
 refine bytesL_inj ?_
 rw [bytesL_textU h, bytesL_append, bytesL_append, bytesL_append, bytesL_append]
 unfold partT
 rw [bytesL_byteL (part_bytes' (by omega) ht), bytesL_byteL (part_bytes' (by omega) hb), bytesL_byteL (part_bytes' (by omega) hm), bytesL_byteL (part_bytes' (by omega) hc)]
 unfold unitL
 simp only [List.append_assoc]
theorem printU_bad {n d : ByteArray} {t b m c : Int} (h : okU n d t b m c = false) : printU n d t b m c = ⟨#[]⟩ := by unfold printU; rw [h]; rfl
theorem printB_len {n d : ByteArray} (h : fit60 n d = true) : (printB n d).size ≤ 200 := by
 have hs := fit60_size h
 unfold printB
 split
 · split
   · omega
   simp only [ByteArray.size_append]
   show n.size + 1 + d.size ≤ _
   omega
 exact Nat.zero_le _
theorem itoa_u (n : Int) (hn : InE n) (w : World) (hR : Ready w) : Calls Tryz.prog 103 #[.int .i64 n] w fun e w' => e = .returned (.string (textI n)) ∧ Below w.heap.size w w' := by
 unfold InE at hn
 have ci := strconv_Itoa n (by omega) (by omega) w hR
 rw [itoa_textI] at ci
 exact ci.mono fun e w' h => ⟨h.1, by obtain ⟨_, k, os, rfl⟩ := h; exact Lib.below_grow _ _ (Nat.le_refl _) k os⟩
theorem wordB_bytes : ∀ i, i < 4 → bytesL (wordB i) = wordL i := by decide +kernel
theorem wordB_size : ∀ i, i < 4 → (wordB i).size ≤ 4 := by decide +kernel
theorem term_u (i : Nat) (wd : ByteArray) (hw : bytesL wd = wordL i) (hs : wd.size ≤ 4) (n : Int) (hn : InE n) (w : World) (hR : Ready w) : Calls Tryz.prog 66 #[.string wd, .int .i64 n] w fun e w' => e = .returned (.string (partT i n)) ∧ Below w.heap.size w w' := by
 by_cases h0 : n = 0
 · subst h0
   have e : partT i 0 = ⟨#[]⟩ := rfl
   rw [e]
   clear e
   go_enter Tryz.func66, Tryz.ntmps66
   go_wp2
   go_ret
   exact ⟨rfl, Below.refl _ _⟩
 by_cases h1 : n = 1
 · subst h1
   have HE := hid (part_one hw)
   clear hw
   go_enter Tryz.func66, Tryz.ntmps66
   go_wp2
   go_ret
   exact ⟨congrArg (fun s => Ending.returned (.string s)) HE.out, Below.refl _ _⟩
 have HE := hid (part_more h0 h1 hw)
 have cf := fun W h => itoa_u n hn W h
 unfold InE at hn
 obtain ⟨n1, n2⟩ := hn
 have CF := hid cf; have HR := hid hR
 have hz := fits_size (x := n) (fits_of_le (k := 3) (by decide +kernel) (by omega))
 have b0 : (n == 0) = false := by rw [beq_eq_false_iff_ne]; exact h0
 have b1 : (n == 1) = false := by rw [beq_eq_false_iff_ne]; exact h1
 clear cf hw h0 h1 hR
 generalize textI n = tx at *
 go_enter Tryz.func66, Tryz.ntmps66
 go_wp2_with fail
 refine (CF.out _ HR.out).mono ?_
 rintro e z1 ⟨rfl, B1⟩
 have B1' := hid B1
 clear B1
 go_wp2
 go_ret
 exact ⟨congrArg (fun s => Ending.returned (.string s)) HE.out, B1'.out⟩
theorem print_u (n d : ByteArray) (t b m c : Int) (hn : n.size ≤ 1099511627776) (hd : d.size ≤ 1099511627776) (w : World) (hR : Set5 w) : Calls Tryz.prog 29 #[.agg #[.string n, .string d, .int .i64 t, .int .i64 b, .int .i64 m, .int .i64 c]] w fun e w' => e = .returned (.string (printU n d t b m c)) ∧ Below w.heap.size w w' := by
 obtain ⟨W0, hW0, b0, s0, hcc⟩ := lay1 w (.string n) [.string d, .int .i64 t, .int .i64 b, .int .i64 m, .int .i64 c] 27
 have cv := fun W h => valid_u n d t b m c hn hd W h
 have HW := hid hW0; have B0 := hid b0; have HC := hid hcc; have HR := hid (hR.below b0)
 clear hW0 b0 hcc s0 hR
 cases hv : okU n d t b m c with
 | false =>
  rw [printU_bad hv]
  rw [hv] at cv
  have CV := hid cv
  clear cv hv
  go_enter Tryz.func29, Tryz.ntmps29
  obtain ⟨⟨p0, p1, p2, p3, p4, p5⟩, _⟩ := six_facts (HC.out W0 (Below.refl _ _))
  go_wp2_with (rw [HW.out])
  refine (CV.out _ HR.out.1).mono ?_
  rintro e1 z1 ⟨rfl, b1⟩
  have P1 := hid (below_up B0.out b1)
  clear b1 p0 p1 p2 p3 p4 p5
  go_wp2
  go_ret
  exact ⟨rfl, P1.out⟩
 | true =>
  have he := printU_text hv
  obtain ⟨ht, hb, hm, hc⟩ := okE_in (okU_parts hv).1
  have hl := printB_len (okU_parts hv).2
  have l0 := partT_size (i := 0) (by omega) ht; have l1 := partT_size (i := 1) (by omega) hb; have l2 := partT_size (i := 2) (by omega) hm; have l3 := partT_size (i := 3) (by omega) hc
  have cp := fun W h => print_q n d hn hd W h
  have c0 := fun W h => term_u 0 (wordB 0) (wordB_bytes 0 (by decide)) (wordB_size 0 (by decide)) t ht W h
  have c1 := fun W h => term_u 1 (wordB 1) (wordB_bytes 1 (by decide)) (wordB_size 1 (by decide)) b hb W h
  have c2 := fun W h => term_u 2 (wordB 2) (wordB_bytes 2 (by decide)) (wordB_size 2 (by decide)) m hm W h
  have c3 := fun W h => term_u 3 (wordB 3) (wordB_bytes 3 (by decide)) (wordB_size 3 (by decide)) c hc W h
  have ce := fun W => expsOf_u t b m c W
  rw [hv] at cv
  generalize printU n d t b m c = RT at *
  generalize partT 0 t = T0 at *
  generalize partT 1 b = T1 at *
  generalize partT 2 m = T2 at *
  generalize partT 3 c = T3 at *
  generalize printB n d = O0 at *
  obtain ⟨O1, h1⟩ : ∃ x, O0 ++ T0 = x := ⟨_, rfl⟩
  rw [h1] at he
  obtain ⟨O2, h2⟩ : ∃ x, O1 ++ T1 = x := ⟨_, rfl⟩
  rw [h2] at he
  obtain ⟨O3, h3⟩ : ∃ x, O2 ++ T2 = x := ⟨_, rfl⟩
  rw [h3] at he
  obtain ⟨O4, h4⟩ : ∃ x, O3 ++ T3 = x := ⟨_, rfl⟩
  rw [h4] at he
  subst he
  have k1 : O1.size ≤ 208 := by rw [← h1, ByteArray.size_append]; omega
  have k2 : O2.size ≤ 216 := by rw [← h2, ByteArray.size_append]; omega
  have k3 : O3.size ≤ 224 := by rw [← h3, ByteArray.size_append]; omega
  have KS0 := hid (show ¬ 9223372036854775807 < O0.size + T0.size by omega)
  have KS1 := hid (show ¬ 9223372036854775807 < O1.size + T1.size by omega)
  have KS2 := hid (show ¬ 9223372036854775807 < O2.size + T2.size by omega)
  have KS3 := hid (show ¬ 9223372036854775807 < O3.size + T3.size by omega)
  have HE0 := hid h1; have HE1 := hid h2; have HE2 := hid h3; have HE3 := hid h4
  have CV := hid cv; have CP := hid cp; have C0 := hid c0; have C1 := hid c1; have C2 := hid c2; have C3 := hid c3; have CE := hid ce
  clear cv cp c0 c1 c2 c3 ce hv ht hb hm hc l0 l1 l2 l3 hl h1 h2 h3 h4 k1 k2 k3
  generalize hw0 : wordB 0 = w0 at *
  generalize hw1 : wordB 1 = w1 at *
  generalize hw2 : wordB 2 = w2 at *
  generalize hw3 : wordB 3 = w3 at *
  have HW0 := hid hw0; have HW1 := hid hw1; have HW2 := hid hw2; have HW3 := hid hw3
  clear hw0 hw1 hw2 hw3
  go_enter Tryz.func29, Tryz.ntmps29
  obtain ⟨⟨p0, p1, p2, p3, p4, p5⟩, _⟩ := six_facts (HC.out W0 (Below.refl _ _))
  go_wp2_with (rw [HW.out])
  refine (CV.out _ HR.out.1).mono ?_
  rintro e1 z1 ⟨rfl, b1⟩
  have B1 := hid b1
  clear b1 p0 p1 p2 p3 p4 p5
  obtain ⟨⟨p0, p1, p2, p3, p4, p5⟩, _⟩ := six_facts (HC.out z1 B1.out)
  go_wp2_with fail
  refine (CP.out _ (HR.out.below B1.out).1).mono ?_
  rintro e1 z2 ⟨rfl, b2⟩
  have B2' := hid (below_up B1.out b2)
  clear b2 p0 p1 p2 p3 p4 p5
  obtain ⟨⟨p0, p1, p2, p3, p4, p5⟩, _⟩ := six_facts (HC.out z2 B2'.out)
  go_wp2_with fail
  refine (CE.out _).mono ?_
  rintro e1 z3 ⟨rfl, b3⟩
  have B2 := hid (below_up B2'.out b3)
  clear b3 p0 p1 p2 p3 p4 p5
  go_wp2_with fail
  go_loopw [3, 15] (fun v i wr => Hid (Below z3.heap.size z3 wr) ∧ ((v = .string O0 ∧ i = .int .i64 0) ∨ (v = .string O1 ∧ i = .int .i64 1) ∨ (v = .string O2 ∧ i = .int .i64 2) ∨ (v = .string O3 ∧ i = .int .i64 3) ∨ (v = .string O4 ∧ i = .int .i64 4))) (fun _ i _ => 4 - (RowKit.intOf i).toNat)
  case atStart => exact ⟨hid (Below.refl _ _), .inl ⟨rfl, rfl⟩⟩
  obtain ⟨hbw, ⟨rfl, rfl⟩ | ⟨rfl, rfl⟩ | ⟨rfl, rfl⟩ | ⟨rfl, rfl⟩ | ⟨rfl, rfl⟩⟩ := hrel
  · have ks := KS0.out
    have tix := idx4_0 (.int .i64 t) (.int .i64 b) (.int .i64 m) (.int .i64 c) wr
    have twd := (HR.out.below (below_up B2.out hbw.out)).2 0 (by decide)
    rw [HW0.out] at twd
    go_wp2_with fail
    refine (C0.out _ (HR.out.below (below_up B2.out hbw.out)).1).mono ?_
    rintro e1 x1 ⟨rfl, b1⟩
    have PX := hid (below_up hbw.out b1)
    clear b1 tix twd
    go_wp2_with fail
    go_roundw
    case rel => exact ⟨PX, .inr (.inl ⟨congrArg Value.string HE0.out, rfl⟩)⟩
    case measure => simp [RowKit.intOf]
  · have ks := KS1.out
    have tix := idx4_1 (.int .i64 t) (.int .i64 b) (.int .i64 m) (.int .i64 c) wr
    have twd := (HR.out.below (below_up B2.out hbw.out)).2 1 (by decide)
    rw [HW1.out] at twd
    go_wp2_with fail
    refine (C1.out _ (HR.out.below (below_up B2.out hbw.out)).1).mono ?_
    rintro e1 x1 ⟨rfl, b1⟩
    have PX := hid (below_up hbw.out b1)
    clear b1 tix twd
    go_wp2_with fail
    go_roundw
    case rel => exact ⟨PX, .inr (.inr (.inl ⟨congrArg Value.string HE1.out, rfl⟩))⟩
    case measure => simp [RowKit.intOf]
  · have ks := KS2.out
    have tix := idx4_2 (.int .i64 t) (.int .i64 b) (.int .i64 m) (.int .i64 c) wr
    have twd := (HR.out.below (below_up B2.out hbw.out)).2 2 (by decide)
    rw [HW2.out] at twd
    go_wp2_with fail
    refine (C2.out _ (HR.out.below (below_up B2.out hbw.out)).1).mono ?_
    rintro e1 x1 ⟨rfl, b1⟩
    have PX := hid (below_up hbw.out b1)
    clear b1 tix twd
    go_wp2_with fail
    go_roundw
    case rel => exact ⟨PX, .inr (.inr (.inr (.inl ⟨congrArg Value.string HE2.out, rfl⟩)))⟩
    case measure => simp [RowKit.intOf]
  · have ks := KS3.out
    have tix := idx4_3 (.int .i64 t) (.int .i64 b) (.int .i64 m) (.int .i64 c) wr
    have twd := (HR.out.below (below_up B2.out hbw.out)).2 3 (by decide)
    rw [HW3.out] at twd
    go_wp2_with fail
    refine (C3.out _ (HR.out.below (below_up B2.out hbw.out)).1).mono ?_
    rintro e1 x1 ⟨rfl, b1⟩
    have PX := hid (below_up hbw.out b1)
    clear b1 tix twd
    go_wp2_with fail
    go_roundw
    case rel => exact ⟨PX, .inr (.inr (.inr (.inr (⟨congrArg Value.string HE3.out, rfl⟩))))⟩
    case measure => simp [RowKit.intOf]
  go_wp2
  go_ret
  exact ⟨rfl, below_up B0.out (below_up B2.out hbw.out)⟩
theorem bytesL_size (s : ByteArray) : (bytesL s).length = s.size := by unfold bytesL; rw [List.length_map, Array.length_toList]; rfl
theorem extract_bytes (s : ByteArray) (p q : Nat) : bytesL (s.extract p q) = ((bytesL s).drop p).take (q - p) := by
 unfold bytesL
 rw [ByteArray.data_extract, Array.toList_extract, List.extract_eq_take_drop, List.map_take, List.map_drop]
def zT (x : Bool) (s : ByteArray) : ByteArray := if x then s else ⟨#[]⟩
def zI (x : Bool) (i : Int) : Int := if x then i else 0
def zE (x : Bool) : Int := if x then 0 else 50
theorem qty_put {W : World} {B : Nat} {n0 d0 : ByteArray} {t0 b0 m0 c0 : Int} (h : CellsAt W B [.string n0, .string d0, .int .i64 t0, .int .i64 b0, .int .i64 m0, .int .i64 c0]) (n d : ByteArray) (t b m c : Int) : CellsAt ((((((W.setCell ⟨B, 0, none⟩ (.string n)).setCell ⟨B, 1, none⟩ (.string d)).setCell ⟨B, 2, none⟩ (.int .i64 t)).setCell ⟨B, 3, none⟩ (.int .i64 b)).setCell ⟨B, 4, none⟩ (.int .i64 m)).setCell ⟨B, 5, none⟩ (.int .i64 c)) B [.string n, .string d, .int .i64 t, .int .i64 b, .int .i64 m, .int .i64 c] :=
 (((((h.put 0 (.string n)).put 1 (.string d)).put 2 (.int .i64 t)).put 3 (.int .i64 b)).put 4 (.int .i64 m)).put 5 (.int .i64 c)
theorem qty_below {w W : World} {B : Nat} (hB : w.heap.size ≤ B) (h : Below w.heap.size w W) (n d : ByteArray) (t b m c : Int) : Below w.heap.size w ((((((W.setCell ⟨B, 0, none⟩ (.string n)).setCell ⟨B, 1, none⟩ (.string d)).setCell ⟨B, 2, none⟩ (.int .i64 t)).setCell ⟨B, 3, none⟩ (.int .i64 b)).setCell ⟨B, 4, none⟩ (.int .i64 m)).setCell ⟨B, 5, none⟩ (.int .i64 c)) :=
 (((((h.setCell (p := ⟨B, 0, none⟩) hB _).setCell (p := ⟨B, 1, none⟩) hB _).setCell (p := ⟨B, 2, none⟩) hB _).setCell (p := ⟨B, 3, none⟩) hB _).setCell (p := ⟨B, 4, none⟩) hB _).setCell (p := ⟨B, 5, none⟩) hB _
theorem result_box (w : World) (n d : ByteArray) (t b m c : Int) : ∃ W0, ((w.alloc (.cells #[.string n, .string d] 23)).alloc (.cells #[.int .i64 t, .int .i64 b, .int .i64 m, .int .i64 c] 25)).alloc (.cells #[.string ⟨#[]⟩, .string ⟨#[]⟩, .int .i64 0, .int .i64 0, .int .i64 0, .int .i64 0] 27) = W0 ∧ Below w.heap.size w W0 ∧
 ∀ W, Below W0.heap.size W0 W → CellsAt W w.heap.size [.string n, .string d] ∧ CellsAt W (w.heap.size + 1) [.int .i64 t, .int .i64 b, .int .i64 m, .int .i64 c] ∧ CellsAt W (w.heap.size + 1 + 1) [.string ⟨#[]⟩, .string ⟨#[]⟩, .int .i64 0, .int .i64 0, .int .i64 0, .int .i64 0] := by
 obtain ⟨W1, h1⟩ : ∃ W, w.alloc (.cells #[.string n, .string d] 23) = W := ⟨_, rfl⟩
 obtain ⟨W2, h2⟩ : ∃ W, W1.alloc (.cells #[.int .i64 t, .int .i64 b, .int .i64 m, .int .i64 c] 25) = W := ⟨_, rfl⟩
 obtain ⟨W3, h3⟩ : ∃ W, W2.alloc (.cells #[.string ⟨#[]⟩, .string ⟨#[]⟩, .int .i64 0, .int .i64 0, .int .i64 0, .int .i64 0] 27) = W := ⟨_, rfl⟩
 have s1 : W1.heap.size = w.heap.size + 1 := by rw [← h1]; simp
 have s2 : W2.heap.size = w.heap.size + 1 + 1 := by rw [← h2]; simp [s1]
 have b1 : Below w.heap.size w W1 := by rw [← h1]; exact (Below.refl _ _).alloc (Nat.le_refl _) _
 have b2 : Below W1.heap.size W1 W2 := by rw [← h2]; exact (Below.refl _ _).alloc (Nat.le_refl _) _
 have b3 : Below W2.heap.size W2 W3 := by rw [← h3]; exact (Below.refl _ _).alloc (Nat.le_refl _) _
 have k1 : CellsAt W1 w.heap.size [.string n, .string d] := by rw [← h1]; exact cellsAt_new rfl
 have k2 : CellsAt W2 (w.heap.size + 1) [.int .i64 t, .int .i64 b, .int .i64 m, .int .i64 c] := by rw [← h2]; exact cellsAt_new s1.symm
 have k3 : CellsAt W3 (w.heap.size + 1 + 1) [.string ⟨#[]⟩, .string ⟨#[]⟩, .int .i64 0, .int .i64 0, .int .i64 0, .int .i64 0] := by rw [← h3]; exact cellsAt_new s2.symm
 exact ⟨W3, by rw [h1, h2, h3], below_up b1 (below_up b2 b3), fun W hb => ⟨((k1.below b2).below b3).below hb, (k2.below b3).below hb, k3.below hb⟩⟩
theorem resultR_any (n d : ByteArray) (e t b m c : Int) (hn : n.size ≤ 1099511627776) (hd : d.size ≤ 1099511627776) (w : World) : Calls Tryz.prog 48 #[.agg #[.string n, .string d], .int .i64 e, .agg #[.int .i64 t, .int .i64 b, .int .i64 m, .int .i64 c]] w fun e' w' => e' = .returned (.tuple #[.agg #[.string (zT (decide (e = 0) && okU n d t b m c) n), .string (zT (decide (e = 0) && okU n d t b m c) d), .int .i64 (zI (decide (e = 0) && okU n d t b m c) t), .int .i64 (zI (decide (e = 0) && okU n d t b m c) b), .int .i64 (zI (decide (e = 0) && okU n d t b m c) m), .int .i64 (zI (decide (e = 0) && okU n d t b m c) c)], .int .i64 (zE (decide (e = 0) && okU n d t b m c))]) ∧ Below w.heap.size w w' := by
 obtain ⟨W0, hW0, b0, hcc⟩ := result_box w n d t b m c
 obtain ⟨W1, hW1, b1, hqq⟩ := box_qty W0 n d t b m c
 have cv := fun W => validUR_any n d t b m c hn hd W
 generalize okU n d t b m c = y0 at *
 have HW := hid hW0; have B0 := hid b0; have HC := hid hcc; have HW1 := hid hW1; have B1 := hid b1; have HQ := hid hqq; have CV := hid cv
 clear hW0 b0 hcc hW1 b1 hqq cv
 have P1 := hid (below_up B0.out B1.out)
 by_cases he : e = 0
 · subst he
   cases y0 with
   | false =>
    show Calls _ _ _ _ fun e' w' => e' = .returned (.tuple #[.agg #[.string ⟨#[]⟩, .string ⟨#[]⟩, .int .i64 0, .int .i64 0, .int .i64 0, .int .i64 0], .int .i64 50]) ∧ _
    go_enter Tryz.func48, Tryz.ntmps48
    obtain ⟨⟨u0, u1⟩, ⟨v0, v1, v2, v3⟩⟩ := (show (W0.cell? ⟨w.heap.size, 0, none⟩ = some (.string n) ∧ W0.cell? ⟨w.heap.size, 1, none⟩ = some (.string d)) ∧ (W0.cell? ⟨w.heap.size + 1, 0, none⟩ = some (.int .i64 t) ∧ W0.cell? ⟨w.heap.size + 1, 1, none⟩ = some (.int .i64 b) ∧ W0.cell? ⟨w.heap.size + 1, 2, none⟩ = some (.int .i64 m) ∧ W0.cell? ⟨w.heap.size + 1, 3, none⟩ = some (.int .i64 c)) from have h := HC.out W0 (Below.refl _ _); ⟨⟨(h.1 0 (by simp)).1, (h.1 1 (by simp)).1⟩, (h.2.1 0 (by simp)).1, (h.2.1 1 (by simp)).1, (h.2.1 2 (by simp)).1, (h.2.1 3 (by simp)).1⟩)
    go_upto_region 1 with (rw [HW.out])
    obtain ⟨⟨q0, q1, q2, q3, q4, q5⟩, ⟨q6, q7, q8, q9, qa, qb⟩⟩ := qty_facts (HQ.out W1 (Below.refl _ _))
    go_wp2_with (rw [HW1.out])
    refine (CV.out _).mono ?_
    rintro e1 z1 ⟨rfl, b2⟩
    have B2 := hid b2
    have P2 := hid (below_up P1.out b2)
    clear b2 u0 u1 v0 v1 v2 v3 q0 q1 q2 q3 q4 q5 q6 q7 q8 q9 qa qb
    obtain ⟨y, hy⟩ : ∃ y, ((((((z1.setCell ⟨w.heap.size + 1 + 1, 0, none⟩ (.string ⟨#[]⟩)).setCell ⟨w.heap.size + 1 + 1, 1, none⟩ (.string ⟨#[]⟩)).setCell ⟨w.heap.size + 1 + 1, 2, none⟩ (.int .i64 0)).setCell ⟨w.heap.size + 1 + 1, 3, none⟩ (.int .i64 0)).setCell ⟨w.heap.size + 1 + 1, 4, none⟩ (.int .i64 0)).setCell ⟨w.heap.size + 1 + 1, 5, none⟩ (.int .i64 0)) = y := ⟨_, rfl⟩
    have KY := hid (show CellsAt y (w.heap.size + 1 + 1) [.string ⟨#[]⟩, .string ⟨#[]⟩, .int .i64 0, .int .i64 0, .int .i64 0, .int .i64 0] by rw [← hy]; exact qty_put (HC.out z1 (below_up B1.out B2.out)).2.2 _ _ _ _ _ _)
    have BY := hid (show Below w.heap.size w y by rw [← hy]; exact qty_below (show w.heap.size ≤ w.heap.size + 1 + 1 by omega) P2.out _ _ _ _ _ _)
    have HY := hid hy
    clear hy
    obtain ⟨⟨k0, k1, k2, k3, k4, k5⟩, ⟨k6, k7, k8, k9, ka, kb⟩⟩ := qty_facts (HC.out z1 (below_up B1.out B2.out)).2.2
    go_wp2_with (rw [HY.out])
    obtain ⟨⟨r0, r1, r2, r3, r4, r5⟩, _⟩ := qty_facts KY.out
    exact bodyPost_ret (v := .tuple #[.agg #[.string ⟨#[]⟩, .string ⟨#[]⟩, .int .i64 0, .int .i64 0, .int .i64 0, .int .i64 0], .int .i64 50]) (by simp [results, Tryz.results48, go_sem, r0, r1, r2, r3, r4, r5]) rfl ⟨rfl, BY.out⟩
   | true =>
    show Calls _ _ _ _ fun e' w' => e' = .returned (.tuple #[.agg #[.string n, .string d, .int .i64 t, .int .i64 b, .int .i64 m, .int .i64 c], .int .i64 0]) ∧ _
    go_enter Tryz.func48, Tryz.ntmps48
    obtain ⟨⟨u0, u1⟩, ⟨v0, v1, v2, v3⟩⟩ := (show (W0.cell? ⟨w.heap.size, 0, none⟩ = some (.string n) ∧ W0.cell? ⟨w.heap.size, 1, none⟩ = some (.string d)) ∧ (W0.cell? ⟨w.heap.size + 1, 0, none⟩ = some (.int .i64 t) ∧ W0.cell? ⟨w.heap.size + 1, 1, none⟩ = some (.int .i64 b) ∧ W0.cell? ⟨w.heap.size + 1, 2, none⟩ = some (.int .i64 m) ∧ W0.cell? ⟨w.heap.size + 1, 3, none⟩ = some (.int .i64 c)) from have h := HC.out W0 (Below.refl _ _); ⟨⟨(h.1 0 (by simp)).1, (h.1 1 (by simp)).1⟩, (h.2.1 0 (by simp)).1, (h.2.1 1 (by simp)).1, (h.2.1 2 (by simp)).1, (h.2.1 3 (by simp)).1⟩)
    go_upto_region 1 with (rw [HW.out])
    obtain ⟨⟨q0, q1, q2, q3, q4, q5⟩, ⟨q6, q7, q8, q9, qa, qb⟩⟩ := qty_facts (HQ.out W1 (Below.refl _ _))
    go_wp2_with (rw [HW1.out])
    refine (CV.out _).mono ?_
    rintro e1 z1 ⟨rfl, b2⟩
    have B2 := hid b2
    have P2 := hid (below_up P1.out b2)
    clear b2 u0 u1 v0 v1 v2 v3 q0 q1 q2 q3 q4 q5 q6 q7 q8 q9 qa qb
    obtain ⟨⟨q0, q1, q2, q3, q4, q5⟩, ⟨q6, q7, q8, q9, qa, qb⟩⟩ := qty_facts (HQ.out z1 B2.out)
    obtain ⟨y, hy⟩ : ∃ y, ((((((z1.setCell ⟨w.heap.size + 1 + 1, 0, none⟩ (.string n)).setCell ⟨w.heap.size + 1 + 1, 1, none⟩ (.string d)).setCell ⟨w.heap.size + 1 + 1, 2, none⟩ (.int .i64 t)).setCell ⟨w.heap.size + 1 + 1, 3, none⟩ (.int .i64 b)).setCell ⟨w.heap.size + 1 + 1, 4, none⟩ (.int .i64 m)).setCell ⟨w.heap.size + 1 + 1, 5, none⟩ (.int .i64 c)) = y := ⟨_, rfl⟩
    have KY := hid (show CellsAt y (w.heap.size + 1 + 1) [.string n, .string d, .int .i64 t, .int .i64 b, .int .i64 m, .int .i64 c] by rw [← hy]; exact qty_put (HC.out z1 (below_up B1.out B2.out)).2.2 _ _ _ _ _ _)
    have BY := hid (show Below w.heap.size w y by rw [← hy]; exact qty_below (show w.heap.size ≤ w.heap.size + 1 + 1 by omega) P2.out _ _ _ _ _ _)
    have HY := hid hy
    clear hy
    obtain ⟨⟨k0, k1, k2, k3, k4, k5⟩, ⟨k6, k7, k8, k9, ka, kb⟩⟩ := qty_facts (HC.out z1 (below_up B1.out B2.out)).2.2
    go_wp2_with (rw [HY.out])
    obtain ⟨⟨r0, r1, r2, r3, r4, r5⟩, _⟩ := qty_facts KY.out
    exact bodyPost_ret (v := .tuple #[.agg #[.string n, .string d, .int .i64 t, .int .i64 b, .int .i64 m, .int .i64 c], .int .i64 0]) (by simp [results, Tryz.results48, go_sem, r0, r1, r2, r3, r4, r5]) rfl ⟨rfl, BY.out⟩
 have hx : (decide (e = 0) && y0) = false := by rw [decide_eq_false he]; rfl
 rw [hx]
 show Calls _ _ _ _ fun e' w' => e' = .returned (.tuple #[.agg #[.string ⟨#[]⟩, .string ⟨#[]⟩, .int .i64 0, .int .i64 0, .int .i64 0, .int .i64 0], .int .i64 50]) ∧ _
 have heb : (e == 0) = false := by rw [beq_eq_false_iff_ne]; exact he
 have hen : (e != 0) = true := by rw [bne_iff_ne]; exact he
 clear he hx
 go_enter Tryz.func48, Tryz.ntmps48
 obtain ⟨⟨u0, u1⟩, ⟨v0, v1, v2, v3⟩⟩ := (show (W0.cell? ⟨w.heap.size, 0, none⟩ = some (.string n) ∧ W0.cell? ⟨w.heap.size, 1, none⟩ = some (.string d)) ∧ (W0.cell? ⟨w.heap.size + 1, 0, none⟩ = some (.int .i64 t) ∧ W0.cell? ⟨w.heap.size + 1, 1, none⟩ = some (.int .i64 b) ∧ W0.cell? ⟨w.heap.size + 1, 2, none⟩ = some (.int .i64 m) ∧ W0.cell? ⟨w.heap.size + 1, 3, none⟩ = some (.int .i64 c)) from have h := HC.out W0 (Below.refl _ _); ⟨⟨(h.1 0 (by simp)).1, (h.1 1 (by simp)).1⟩, (h.2.1 0 (by simp)).1, (h.2.1 1 (by simp)).1, (h.2.1 2 (by simp)).1, (h.2.1 3 (by simp)).1⟩)
 go_upto_region 1 with (rw [HW.out])
 go_upto_region 2 with (rw [HW1.out])
 clear u0 u1 v0 v1 v2 v3
 obtain ⟨y, hy⟩ : ∃ y, ((((((W1.setCell ⟨w.heap.size + 1 + 1, 0, none⟩ (.string ⟨#[]⟩)).setCell ⟨w.heap.size + 1 + 1, 1, none⟩ (.string ⟨#[]⟩)).setCell ⟨w.heap.size + 1 + 1, 2, none⟩ (.int .i64 0)).setCell ⟨w.heap.size + 1 + 1, 3, none⟩ (.int .i64 0)).setCell ⟨w.heap.size + 1 + 1, 4, none⟩ (.int .i64 0)).setCell ⟨w.heap.size + 1 + 1, 5, none⟩ (.int .i64 0)) = y := ⟨_, rfl⟩
 have KY := hid (show CellsAt y (w.heap.size + 1 + 1) [.string ⟨#[]⟩, .string ⟨#[]⟩, .int .i64 0, .int .i64 0, .int .i64 0, .int .i64 0] by rw [← hy]; exact qty_put (HC.out W1 B1.out).2.2 _ _ _ _ _ _)
 have BY := hid (show Below w.heap.size w y by rw [← hy]; exact qty_below (show w.heap.size ≤ w.heap.size + 1 + 1 by omega) P1.out _ _ _ _ _ _)
 have HY := hid hy
 clear hy
 obtain ⟨⟨k0, k1, k2, k3, k4, k5⟩, ⟨k6, k7, k8, k9, ka, kb⟩⟩ := qty_facts (HC.out W1 B1.out).2.2
 go_wp2_with (rw [HY.out])
 obtain ⟨⟨r0, r1, r2, r3, r4, r5⟩, _⟩ := qty_facts KY.out
 exact bodyPost_ret (v := .tuple #[.agg #[.string ⟨#[]⟩, .string ⟨#[]⟩, .int .i64 0, .int .i64 0, .int .i64 0, .int .i64 0], .int .i64 50]) (by simp [results, Tryz.results48, go_sem, r0, r1, r2, r3, r4, r5]) rfl ⟨rfl, BY.out⟩
theorem head_extract (s : ByteArray) : s.extract 0 (headL (bytesL s)).length = fracT s := by
 refine bytesL_inj ?_
 have hlt : ∀ x ∈ headL (bytesL s), x < 256 := fun x hx => by
  have hm : x ∈ bytesL s := by rw [← head_rest (bytesL s)]; exact List.mem_append.2 (.inl hx)
  unfold bytesL at hm
  obtain ⟨y, _, rfl⟩ := List.mem_map.1 hm
  exact y.toNat_lt
 unfold fracT
 rw [extract_bytes, bytesL_byteL hlt, Nat.sub_zero, List.drop_zero]
 conv => lhs; arg 2; rw [← head_rest (bytesL s)]
 exact List.take_left
theorem drop_head (s : ByteArray) : (bytesL s).drop (headL (bytesL s)).length = restL (bytesL s) := by
 conv => lhs; arg 2; rw [← head_rest (bytesL s)]
 exact List.drop_left
theorem frac_size (s : ByteArray) : (fracT s).size ≤ s.size := by
 have := congrArg List.length (head_rest (bytesL s))
 rw [List.length_append, bytesL_size] at this
 unfold fracT
 rw [byteL_size]
 omega
theorem par_ok (f : ByteArray) (t b m c : Int) : (decide (parE f = 0) && okU (parN f) (parD f) t b m c) = (parseB f && okU (cutN f) (cutD f) t b m c) := by
 unfold parE parN parD
 cases parseB f <;> rfl
theorem par_out (f : ByteArray) (x : Bool) (h : x = true → parseB f = true) : zT x (parN f) = zT x (cutN f) ∧ zT x (parD f) = zT x (cutD f) := by
 cases x with
 | false => exact ⟨rfl, rfl⟩
 | true => unfold parN parD; rw [h rfl]; exact ⟨rfl, rfl⟩
theorem hcz_lt {W : World} {B : Nat} {v : Value} {vs : List Value} (h : CellsAt W B (v :: vs)) : B < W.heap.size := World.block_lt_of_cell? W ⟨B, 0, none⟩ (h 0 (Nat.zero_lt_succ _)).1
theorem par_size (s : ByteArray) : (parN s).size ≤ s.size ∧ (parD s).size ≤ s.size + 1 := by
 have h1 := cutN_size s
 have h2 := cutD_size s
 unfold parN parD
 split
 · exact ⟨h1, h2⟩
 exact ⟨Nat.zero_le _, Nat.zero_le _⟩
def spaceAt (s : ByteArray) : Nat := (bytesL s).findIdx (· == 32)
theorem index_space (s : ByteArray) : Lib.indexByte s.data.toList 32 = if spaceAt s < s.size then (spaceAt s : Int) else -1 := by
 have key : ∀ l : List UInt8, Lib.indexByte l 32 = if (l.map UInt8.toNat).findIdx (· == 32) < l.length then ((l.map UInt8.toNat).findIdx (· == 32) : Int) else -1 := by
  intro l
  induction l with
  | nil => rfl
  | cons b l ih =>
   rw [Lib.indexByte, List.map_cons, List.findIdx_cons]
   have hb : (b.toNat == 32) = (b == 32) := by
    rw [Bool.eq_iff_iff, beq_iff_eq, beq_iff_eq]
    exact ⟨fun e => UInt8.toNat_inj.1 e, fun e => by rw [e]; rfl⟩
   rw [hb]
   cases b == 32 with
   | true => simp
   | false =>
    simp only [cond_false, Bool.false_eq_true, if_false]
    generalize (l.map UInt8.toNat).findIdx (· == 32) = F at *
    by_cases h : F < l.length
    · rw [if_pos h] at ih
      have n1 : ((F : Int) == -1) = false := by rw [beq_eq_false_iff_ne]; omega
      rw [ih, n1, if_neg (by decide), if_pos (by rw [List.length_cons]; omega)]
      omega
    rw [if_neg h] at ih
    rw [ih, if_pos (by decide), if_neg (by rw [List.length_cons]; omega)]
 have := key s.data.toList
 rw [this]
 unfold spaceAt bytesL
 rw [show s.data.toList.length = s.size by simp]
theorem find_take : ∀ l : List Nat, l.findIdx (· == 32) = (headL l).length
 | [] => rfl
 | a :: r => by
  have ih := find_take r
  unfold headL at *
  rw [List.findIdx_cons, List.takeWhile_cons]
  by_cases h : a = 32
  · subst h; rfl
  have h1 : (a == 32) = false := by rw [beq_eq_false_iff_ne]; exact h
  rw [h1, cond_false, ih, if_pos (by simpa using h), List.length_cons]
theorem spaceAt_head (s : ByteArray) : spaceAt s = (headL (bytesL s)).length := find_take _
theorem space_frac (s : ByteArray) : s.extract 0 (spaceAt s) = fracT s := by rw [spaceAt_head]; exact head_extract s
theorem frac_len (s : ByteArray) : (fracT s).size = spaceAt s := by rw [spaceAt_head]; unfold fracT; rw [byteL_size]
theorem space_le (s : ByteArray) : spaceAt s ≤ s.size := by rw [← frac_len]; exact frac_size s
theorem extract_all (s : ByteArray) (h : ¬ spaceAt s < s.size) : s = fracT s := by
 have h1 := space_le s
 rw [← space_frac, show spaceAt s = s.size by omega, ByteArray.extract_zero_size]
def restT (s : ByteArray) : ByteArray := s.extract (fracT s).size s.size
theorem restT_bytes (s : ByteArray) : bytesL (restT s) = restL (bytesL s) := by
 have e : (bytesL s).length = s.size := bytesL_length s
 unfold restT
 rw [extract_bytes, frac_len, spaceAt_head, drop_head]
 refine List.take_of_length_le ?_
 have := congrArg List.length (head_rest (bytesL s))
 rw [List.length_append] at this
 omega
theorem litspace_any (s : ByteArray) (hs : s.size ≤ 1099511627776) (w : World) :
 Calls Tryz.prog 104 #[.string s, .string ⟨#[32]⟩] w fun e w' => (∃ (B : ByteArray) (F : Bool), e = .returned (.tuple #[.string (fracT s), .string B, .bool F])) ∧ ∃ n, w' = w.drewN n := by
 have ci := fun W => stringslite_Index_one s 32 W
 rw [index_space] at ci
 by_cases h : spaceAt s < s.size
 · rw [if_pos h] at ci
   have hA := space_frac s
   generalize spaceAt s = k at *
   have h0 : (0 : Int) ≤ (k : Int) := by omega
   have s1 := fun W => slice_to s k (by omega) W
   have s2 := fun W => slice_behind s k (by omega) W
   have hw : IntKind.i64.wrap ((k : Int) + 1) = (k : Int) + 1 := IntWalk.i64_in _ (by omega)
   rw [hA] at s1
   generalize fracT s = A at *
   generalize s.extract (k + 1) s.size = B at *
   have CI := hid ci
   clear ci h hs hA
   go_enter Tryz.func104, Tryz.ntmps104
   go_wp2_with fail
   refine (CI.out _).mono ?_
   rintro e w1 ⟨rfl, rfl⟩
   go_wp2_with fail
   go_quiet (fail)
   go_wp2
   go_ret3
   exact ⟨⟨_, _, rfl⟩, _, rfl⟩
 rw [if_neg h] at ci
 have hA := hid (extract_all s h)
 have CI := hid ci
 clear ci h hs
 go_enter Tryz.func104, Tryz.ntmps104
 go_wp2_with fail
 refine (CI.out _).mono ?_
 rintro e w1 ⟨rfl, rfl⟩
 go_wp2
 go_ret3
 exact ⟨⟨_, _, congrArg (fun x => Ending.returned (.tuple #[.string x, _, _])) hA.out⟩, 0, rfl⟩
theorem spacecut_any (s : ByteArray) (hs : s.size ≤ 1099511627776) (w : World) :
 Calls Tryz.prog 69 #[.string s, .string ⟨#[32]⟩] w fun e w' => (∃ (B : ByteArray) (F : Bool), e = .returned (.tuple #[.string (fracT s), .string B, .bool F])) ∧ Below w.heap.size w w' := by
 have cl := fun W => litspace_any s hs W
 generalize fracT s = A at *
 have CL := hid cl
 clear cl hs
 go_enter Tryz.func69, Tryz.ntmps69
 go_wp2_with fail
 refine (CL.out _).mono ?_
 rintro e w1 ⟨⟨B, F, rfl⟩, n, rfl⟩
 go_wp2
 go_ret3
 exact ⟨⟨_, _, rfl⟩, below_drewN (Below.refl _ _) n⟩
def preB (s p : ByteArray) : Bool := decide (p.size ≤ s.size) && decide (s.extract 0 p.size = p)
def offB (s p : ByteArray) : ByteArray := if preB s p then s.extract p.size s.size else s
theorem slice_off (s : ByteArray) (k : Nat) (h : k ≤ s.size) (w : World) : (Instr.slice 9 (.string s) (some (.int .i64 (k : Int))) none none).run Tryz.prog w = .ok (.string (s.extract k s.size)) w :=
 slice_from Tryz.prog 9 Tryz.underlying9 s k h _ rfl w
theorem pre_list (s p : ByteArray) : preB s p = (bytesL p).isPrefixOf (bytesL s) := by
 rw [Bool.eq_iff_iff, List.isPrefixOf_iff_prefix]
 unfold preB
 rw [Bool.and_eq_true, decide_eq_true_eq, decide_eq_true_eq]
 constructor
 · rintro ⟨_, h2⟩
   refine ⟨(bytesL s).drop p.size, ?_⟩
   have e : (bytesL s).take p.size = bytesL p := by
    conv => rhs; rw [← h2]
    rw [extract_bytes, List.drop_zero, Nat.sub_zero]
   rw [← e]
   exact List.take_append_drop _ _
 rintro ⟨r, h⟩
 have hl := congrArg List.length h
 rw [List.length_append, bytesL_length, bytesL_length] at hl
 refine ⟨by omega, bytesL_inj ?_⟩
 rw [extract_bytes, List.drop_zero, Nat.sub_zero, ← h, ← bytesL_length p, List.take_left]
theorem off_bytes (s p : ByteArray) : bytesL (s.extract p.size s.size) = (bytesL s).drop p.size := by
 have e : (bytesL s).length = s.size := bytesL_length s
 rw [extract_bytes]
 refine List.take_of_length_le ?_
 rw [List.length_drop]
 omega
theorem hasP_any (s p : ByteArray) (w : World) :
 Calls Tryz.prog 136 #[.string s, .string p] w fun e w' => e = .returned (.bool (preB s p)) ∧ w = w' := by
 by_cases h0 : p.size ≤ s.size
 · have hm : preB s p = (((s.extract 0 p.size).toList == p.toList)) := by
    unfold preB
    rw [decide_eq_true h0, Bool.true_and, str_eq_iff]
   have hsl := fun w => slice_to s p.size h0 w
   have hi : (p.size : Int) ≤ (s.size : Int) := by omega
   obtain ⟨T, hT⟩ : ∃ T, s.extract 0 p.size = T := ⟨_, rfl⟩
   rw [hT] at hm hsl
   obtain ⟨b, hb⟩ : ∃ b, preB s p = b := ⟨_, rfl⟩
   rw [hb] at hm ⊢
   have hm2 : (T.toList == p.toList) = b := hm.symm
   clear hm hb hT h0
   go_enter Tryz.func136, Tryz.ntmps136
   go_wp2
   go_ret
   exact ⟨rfl, rfl⟩
 have hm : preB s p = false := by unfold preB; rw [decide_eq_false h0]; rfl
 rw [hm]
 have hi : ¬ (p.size : Int) ≤ (s.size : Int) := by omega
 clear hm h0
 go_enter Tryz.func136, Tryz.ntmps136
 go_wp2
 go_ret
 exact ⟨rfl, rfl⟩
theorem litecutP_any (s p : ByteArray) (w : World) :
 Calls Tryz.prog 105 #[.string s, .string p] w fun e w' => e = .returned (.tuple #[.string (offB s p), .bool (preB s p)]) ∧ w = w' := by
 have ch := fun w => hasP_any s p w
 unfold offB
 cases hm : preB s p with
 | false =>
  rw [hm] at ch
  have CH := hid ch
  clear ch
  show Calls _ _ _ _ fun e w' => e = .returned (.tuple #[.string s, .bool false]) ∧ _
  go_enter Tryz.func105, Tryz.ntmps105
  go_wp2_with fail
  refine (CH.out _).mono ?_
  rintro e w1 ⟨rfl, rfl⟩
  go_wp2_with fail
  go_ret2
  exact ⟨rfl, rfl⟩
 | true =>
  rw [hm] at ch
  have h1 : p.size ≤ s.size := by unfold preB at hm; rw [Bool.and_eq_true, decide_eq_true_eq] at hm; exact hm.1
  have hsl := fun w => slice_off s p.size h1 w
  have CH := hid ch
  clear ch hm h1
  show Calls _ _ _ _ fun e w' => e = .returned (.tuple #[.string (s.extract p.size s.size), .bool true]) ∧ _
  generalize s.extract p.size s.size = T at *
  go_enter Tryz.func105, Tryz.ntmps105
  go_wp2_with fail
  refine (CH.out _).mono ?_
  rintro e w1 ⟨rfl, rfl⟩
  go_wp2_with fail
  go_ret2
  exact ⟨rfl, rfl⟩
theorem cutP_any (s p : ByteArray) (w : World) :
 Calls Tryz.prog 71 #[.string s, .string p] w fun e w' => e = .returned (.tuple #[.string (offB s p), .bool (preB s p)]) ∧ w = w' := by
 have ch := fun w => litecutP_any s p w
 generalize offB s p = A at *
 generalize preB s p = B at *
 have CH := hid ch
 clear ch
 go_enter Tryz.func71, Tryz.ntmps71
 go_wp2_with fail
 refine (CH.out _).mono ?_
 rintro e w1 ⟨rfl, rfl⟩
 go_wp2_with fail
 go_ret2
 exact ⟨rfl, rfl⟩
def NextW (R : Nat) (T T' : ByteArray) (w w' : World) : Prop := ∃ w1, Below w.heap.size w w1 ∧ (w' = w1 ∧ T' = T ∨ w' = w1.setCell ⟨R, 0, none⟩ (.string T'))
theorem NextW.rest {R : Nat} {T T' : ByteArray} {w w' : World} (h : NextW R T T' w w') (hc : CellsAt w R [.string T]) : CellsAt w' R [.string T'] := by
 obtain ⟨w1, b, ⟨rfl, rfl⟩ | rfl⟩ := h
 · exact hc.below b
 exact put1 (hc.below b) _
theorem NextW.cells {R A : Nat} {T T' : ByteArray} {w w' : World} {v : Value} {vs : List Value} (h : NextW R T T' w w') (hne : R ≠ A) (hc : CellsAt w A (v :: vs)) : CellsAt w' A (v :: vs) := by
 obtain ⟨w1, b, ⟨rfl, rfl⟩ | rfl⟩ := h
 · exact hc.below b
 exact (hc.below b).far hne
theorem NextW.low {R n : Nat} {T T' : ByteArray} {w0 w w' : World} (h : NextW R T T' w w') (hb : Below n w0 w) (hn : n ≤ w.heap.size) (hR : n ≤ R) : Below n w0 w' := by
 obtain ⟨w1, b, ⟨rfl, rfl⟩ | rfl⟩ := h
 · exact hb.trans (b.mono hn)
 exact low1 hR (hb.trans (b.mono hn)) _
theorem NextW.size {R : Nat} {T T' : ByteArray} {w w' : World} (h : NextW R T T' w w') : w.heap.size ≤ w'.heap.size := by
 obtain ⟨w1, b, ⟨rfl, rfl⟩ | rfl⟩ := h
 · exact b.size
 simpa using b.size
theorem partT_bytes {i : Nat} (hi : i < 4) {n : Int} (hn : InE n) : bytesL (partT i n) = partL i n := by unfold partT; exact bytesL_byteL (part_bytes' hi hn)
theorem next_u (i : Nat) (hi : i < 4) (R : Nat) (T : ByteArray) (w : World) (hR : Ready w) (hc : CellsAt w R [.string T]) :
 Calls Tryz.prog 70 #[.string (wordB i), .pointer (some ⟨R, 0, none⟩)] w fun e w' => e = .returned (.int .i64 (scanP i (bytesL T)).1) ∧ ∃ T', bytesL T' = (scanP i (bytesL T)).2 ∧ T'.size ≤ T.size ∧ NextW R T T' w w' := by
 have ct0 := fun W h => term_u i (wordB i) (wordB_bytes i hi) (wordB_size i hi) (-3) (by decide) W h
 have cp0 := fun W => cutP_any T (partT i (-3)) W
 have hx0 := (pre_list T (partT i (-3))).trans (by rw [partT_bytes hi (by decide)])
 have ha0 : preB T (partT i (-3)) = true → bytesL (offB T (partT i (-3))) = (bytesL T).drop (partT i (-3)).size ∧ (offB T (partT i (-3))).size ≤ T.size := fun h => by
  unfold offB
  rw [if_pos h]
  exact ⟨off_bytes _ _, by rw [ByteArray.size_extract]; omega⟩
 generalize preB T (partT i (-3)) = x0 at *
 generalize offB T (partT i (-3)) = A0 at *
 have ct1 := fun W h => term_u i (wordB i) (wordB_bytes i hi) (wordB_size i hi) 3 (by decide) W h
 have cp1 := fun W => cutP_any T (partT i 3) W
 have hx1 := (pre_list T (partT i 3)).trans (by rw [partT_bytes hi (by decide)])
 have ha1 : preB T (partT i 3) = true → bytesL (offB T (partT i 3)) = (bytesL T).drop (partT i 3).size ∧ (offB T (partT i 3)).size ≤ T.size := fun h => by
  unfold offB
  rw [if_pos h]
  exact ⟨off_bytes _ _, by rw [ByteArray.size_extract]; omega⟩
 generalize preB T (partT i 3) = x1 at *
 generalize offB T (partT i 3) = A1 at *
 have ct2 := fun W h => term_u i (wordB i) (wordB_bytes i hi) (wordB_size i hi) (-2) (by decide) W h
 have cp2 := fun W => cutP_any T (partT i (-2)) W
 have hx2 := (pre_list T (partT i (-2))).trans (by rw [partT_bytes hi (by decide)])
 have ha2 : preB T (partT i (-2)) = true → bytesL (offB T (partT i (-2))) = (bytesL T).drop (partT i (-2)).size ∧ (offB T (partT i (-2))).size ≤ T.size := fun h => by
  unfold offB
  rw [if_pos h]
  exact ⟨off_bytes _ _, by rw [ByteArray.size_extract]; omega⟩
 generalize preB T (partT i (-2)) = x2 at *
 generalize offB T (partT i (-2)) = A2 at *
 have ct3 := fun W h => term_u i (wordB i) (wordB_bytes i hi) (wordB_size i hi) 2 (by decide) W h
 have cp3 := fun W => cutP_any T (partT i 2) W
 have hx3 := (pre_list T (partT i 2)).trans (by rw [partT_bytes hi (by decide)])
 have ha3 : preB T (partT i 2) = true → bytesL (offB T (partT i 2)) = (bytesL T).drop (partT i 2).size ∧ (offB T (partT i 2)).size ≤ T.size := fun h => by
  unfold offB
  rw [if_pos h]
  exact ⟨off_bytes _ _, by rw [ByteArray.size_extract]; omega⟩
 generalize preB T (partT i 2) = x3 at *
 generalize offB T (partT i 2) = A3 at *
 have ct4 := fun W h => term_u i (wordB i) (wordB_bytes i hi) (wordB_size i hi) (-1) (by decide) W h
 have cp4 := fun W => cutP_any T (partT i (-1)) W
 have hx4 := (pre_list T (partT i (-1))).trans (by rw [partT_bytes hi (by decide)])
 have ha4 : preB T (partT i (-1)) = true → bytesL (offB T (partT i (-1))) = (bytesL T).drop (partT i (-1)).size ∧ (offB T (partT i (-1))).size ≤ T.size := fun h => by
  unfold offB
  rw [if_pos h]
  exact ⟨off_bytes _ _, by rw [ByteArray.size_extract]; omega⟩
 generalize preB T (partT i (-1)) = x4 at *
 generalize offB T (partT i (-1)) = A4 at *
 have ct5 := fun W h => term_u i (wordB i) (wordB_bytes i hi) (wordB_size i hi) 1 (by decide) W h
 have cp5 := fun W => cutP_any T (partT i 1) W
 have hx5 := (pre_list T (partT i 1)).trans (by rw [partT_bytes hi (by decide)])
 have ha5 : preB T (partT i 1) = true → bytesL (offB T (partT i 1)) = (bytesL T).drop (partT i 1).size ∧ (offB T (partT i 1)).size ≤ T.size := fun h => by
  unfold offB
  rw [if_pos h]
  exact ⟨off_bytes _ _, by rw [ByteArray.size_extract]; omega⟩
 generalize preB T (partT i 1) = x5 at *
 generalize offB T (partT i 1) = A5 at *
 have hs : scanP i (bytesL T) = if x0 then (-3, (bytesL T).drop (partT i (-3)).size) else if x1 then (3, (bytesL T).drop (partT i 3).size) else if x2 then (-2, (bytesL T).drop (partT i (-2)).size) else if x3 then (2, (bytesL T).drop (partT i 2).size) else if x4 then (-1, (bytesL T).drop (partT i (-1)).size) else if x5 then (1, (bytesL T).drop (partT i 1).size) else (0, bytesL T) := by
  unfold scanP ordL
  simp only [seekP]
  rw [← hx0, ← hx1, ← hx2, ← hx3, ← hx4, ← hx5]
  simp only [partT, byteL_size]
 have HS := hid hs; have HC := hid hc; have HR := hid hR
 have CT0 := hid ct0; have CP0 := hid cp0; have HA0 := hid ha0
 have CT1 := hid ct1; have CP1 := hid cp1; have HA1 := hid ha1
 have CT2 := hid ct2; have CP2 := hid cp2; have HA2 := hid ha2
 have CT3 := hid ct3; have CP3 := hid cp3; have HA3 := hid ha3
 have CT4 := hid ct4; have CP4 := hid cp4; have HA4 := hid ha4
 have CT5 := hid ct5; have CP5 := hid cp5; have HA5 := hid ha5
 clear hs hc hR hi ct0 cp0 ha0 hx0 ct1 cp1 ha1 hx1 ct2 cp2 ha2 hx2 ct3 cp3 ha3 hx3 ct4 cp4 ha4 hx4 ct5 cp5 ha5 hx5
 generalize partT i (-3) = Q0 at *
 generalize partT i 3 = Q1 at *
 generalize partT i (-2) = Q2 at *
 generalize partT i 2 = Q3 at *
 generalize partT i (-1) = Q4 at *
 generalize partT i 1 = Q5 at *
 generalize wordB i = wd at *
 have P0 := hid (Below.refl w.heap.size w)
 go_enter Tryz.func70, Tryz.ntmps70
 go_wp2_with fail
 go_loopw [4] (fun v wr => Hid (Below w.heap.size w wr) ∧ ((v = .int .i64 3) ∨ (v = .int .i64 2 ∧ x0 = false ∧ x1 = false) ∨ (v = .int .i64 1 ∧ x0 = false ∧ x1 = false ∧ x2 = false ∧ x3 = false) ∨ (v = .int .i64 0 ∧ x0 = false ∧ x1 = false ∧ x2 = false ∧ x3 = false ∧ x4 = false ∧ x5 = false))) (fun v _ => (RowKit.intOf v).toNat)
 case atStart => exact ⟨P0, .inl rfl⟩
 obtain ⟨hbw, rfl | ⟨rfl, rfl, rfl⟩ | ⟨rfl, rfl, rfl, rfl, rfl⟩ | ⟨rfl, rfl, rfl, rfl, rfl, rfl, rfl⟩⟩ := hrel
 · go_wp2_with fail
   go_loopw [17] (fun j wr => Hid (Below w.heap.size w wr) ∧ ((j = .int .i64 0) ∨ (j = .int .i64 1 ∧ x0 = false) ∨ (j = .int .i64 2 ∧ x0 = false ∧ x1 = false))) (fun j _ => 2 - (RowKit.intOf j).toNat)
   case atStart => exact ⟨hbw, .inl rfl⟩
   clear hbw
   obtain ⟨hbw, rfl | ⟨rfl, rfl⟩ | ⟨rfl, rfl, rfl⟩⟩ := hrel
   · have tix := idx2_0 (.int .i64 (-3)) (.int .i64 3) wr
     cases x0 with
     | true =>
      go_wp2_with fail
      have K := hid (show ∀ W, Below wr.heap.size wr W → W.cell? ⟨R, 0, none⟩ = some (.string T) from fun W b => (one_facts (HC.out.below (below_up hbw.out b))).1)
      have HRz := hid (HR.out.below hbw.out)
      have g := Below.refl wr.heap.size wr
      go_region_held3 (fun W => W.cell? ⟨R, 0, none⟩ = some (.string T)) (first | exact K.out _ g | exact K.out _ ⟨g.os, g.tape, g.output, g.size, g.block⟩) (first | (go_at_call 66; (with_reducible refine (CT0.out _ ?_).mono ?_); (first | exact HRz.out.below g | exact HRz.out.below ⟨g.os, g.tape, g.output, g.size, g.block⟩); (rintro e y ⟨rfl, k'⟩); (have g : Below wr.heap.size wr y := below_up (by first | exact g | exact ⟨g.os, g.tape, g.output, g.size, g.block⟩) k')) | (go_at_call 71; (with_reducible refine (CP0.out _).mono ?_); (rintro e y' ⟨rfl, rfl⟩)))
      all_goals (
       have PE := below_up hbw.out (show Below wr.heap.size wr _ by first | exact g | exact ⟨g.os, g.tape, g.output, g.size, g.block⟩)
       obtain ⟨q0, q1⟩ := one_facts (HC.out.below PE)
       have PE' := hid PE
       clear PE
       obtain ⟨a1, a2⟩ := HA0.out (by trivial)
       have BY1 := hid a1; have BY2 := hid a2
       clear a1 a2 g
       go_wp2
       go_ret
       exact ⟨by rw [HS.out]; rfl, A0, by rw [HS.out]; exact BY1.out, BY2.out, _, (by first | exact PE'.out | exact ⟨PE'.out.os, PE'.out.tape, PE'.out.output, PE'.out.size, PE'.out.block⟩), .inr rfl⟩)
     | false =>
      go_wp2_with fail
      have K := hid (show ∀ W, Below wr.heap.size wr W → W.cell? ⟨R, 0, none⟩ = some (.string T) from fun W b => (one_facts (HC.out.below (below_up hbw.out b))).1)
      have HRz := hid (HR.out.below hbw.out)
      have g := Below.refl wr.heap.size wr
      go_region_held3 (fun W => W.cell? ⟨R, 0, none⟩ = some (.string T)) (first | exact K.out _ g | exact K.out _ ⟨g.os, g.tape, g.output, g.size, g.block⟩) (first | (go_at_call 66; (with_reducible refine (CT0.out _ ?_).mono ?_); (first | exact HRz.out.below g | exact HRz.out.below ⟨g.os, g.tape, g.output, g.size, g.block⟩); (rintro e y ⟨rfl, k'⟩); (have g : Below wr.heap.size wr y := below_up (by first | exact g | exact ⟨g.os, g.tape, g.output, g.size, g.block⟩) k')) | (go_at_call 71; (with_reducible refine (CP0.out _).mono ?_); (rintro e y' ⟨rfl, rfl⟩)))
      all_goals (
       have PE := hid (below_up hbw.out (show Below wr.heap.size wr _ by first | exact g | exact ⟨g.os, g.tape, g.output, g.size, g.block⟩))
       clear g
       go_wp2_with fail
       go_roundw
       case rel => exact ⟨hid (by first | exact PE.out | exact ⟨PE.out.os, PE.out.tape, PE.out.output, PE.out.size, PE.out.block⟩), .inr (.inl ⟨rfl, by trivial⟩)⟩
       case measure => simp [RowKit.intOf])
   · have tix := idx2_1 (.int .i64 (-3)) (.int .i64 3) wr
     cases x1 with
     | true =>
      go_wp2_with fail
      have K := hid (show ∀ W, Below wr.heap.size wr W → W.cell? ⟨R, 0, none⟩ = some (.string T) from fun W b => (one_facts (HC.out.below (below_up hbw.out b))).1)
      have HRz := hid (HR.out.below hbw.out)
      have g := Below.refl wr.heap.size wr
      go_region_held3 (fun W => W.cell? ⟨R, 0, none⟩ = some (.string T)) (first | exact K.out _ g | exact K.out _ ⟨g.os, g.tape, g.output, g.size, g.block⟩) (first | (go_at_call 66; (with_reducible refine (CT1.out _ ?_).mono ?_); (first | exact HRz.out.below g | exact HRz.out.below ⟨g.os, g.tape, g.output, g.size, g.block⟩); (rintro e y ⟨rfl, k'⟩); (have g : Below wr.heap.size wr y := below_up (by first | exact g | exact ⟨g.os, g.tape, g.output, g.size, g.block⟩) k')) | (go_at_call 71; (with_reducible refine (CP1.out _).mono ?_); (rintro e y' ⟨rfl, rfl⟩)))
      all_goals (
       have PE := below_up hbw.out (show Below wr.heap.size wr _ by first | exact g | exact ⟨g.os, g.tape, g.output, g.size, g.block⟩)
       obtain ⟨q0, q1⟩ := one_facts (HC.out.below PE)
       have PE' := hid PE
       clear PE
       obtain ⟨a1, a2⟩ := HA1.out (by trivial)
       have BY1 := hid a1; have BY2 := hid a2
       clear a1 a2 g
       go_wp2
       go_ret
       exact ⟨by rw [HS.out]; rfl, A1, by rw [HS.out]; exact BY1.out, BY2.out, _, (by first | exact PE'.out | exact ⟨PE'.out.os, PE'.out.tape, PE'.out.output, PE'.out.size, PE'.out.block⟩), .inr rfl⟩)
     | false =>
      go_wp2_with fail
      have K := hid (show ∀ W, Below wr.heap.size wr W → W.cell? ⟨R, 0, none⟩ = some (.string T) from fun W b => (one_facts (HC.out.below (below_up hbw.out b))).1)
      have HRz := hid (HR.out.below hbw.out)
      have g := Below.refl wr.heap.size wr
      go_region_held3 (fun W => W.cell? ⟨R, 0, none⟩ = some (.string T)) (first | exact K.out _ g | exact K.out _ ⟨g.os, g.tape, g.output, g.size, g.block⟩) (first | (go_at_call 66; (with_reducible refine (CT1.out _ ?_).mono ?_); (first | exact HRz.out.below g | exact HRz.out.below ⟨g.os, g.tape, g.output, g.size, g.block⟩); (rintro e y ⟨rfl, k'⟩); (have g : Below wr.heap.size wr y := below_up (by first | exact g | exact ⟨g.os, g.tape, g.output, g.size, g.block⟩) k')) | (go_at_call 71; (with_reducible refine (CP1.out _).mono ?_); (rintro e y' ⟨rfl, rfl⟩)))
      all_goals (
       have PE := hid (below_up hbw.out (show Below wr.heap.size wr _ by first | exact g | exact ⟨g.os, g.tape, g.output, g.size, g.block⟩))
       clear g
       go_wp2_with fail
       go_roundw
       case rel => exact ⟨hid (by first | exact PE.out | exact ⟨PE.out.os, PE.out.tape, PE.out.output, PE.out.size, PE.out.block⟩), .inr (.inr ⟨rfl, by trivial, by trivial⟩)⟩
       case measure => simp [RowKit.intOf])
   go_wp2_with fail
   go_roundw
   case rel => exact ⟨hbw, .inr (.inl ⟨rfl, by trivial, by trivial⟩)⟩
   case measure => simp [RowKit.intOf]
 · go_wp2_with fail
   go_loopw [17] (fun j wr => Hid (Below w.heap.size w wr) ∧ ((j = .int .i64 0) ∨ (j = .int .i64 1 ∧ x2 = false) ∨ (j = .int .i64 2 ∧ x2 = false ∧ x3 = false))) (fun j _ => 2 - (RowKit.intOf j).toNat)
   case atStart => exact ⟨hbw, .inl rfl⟩
   clear hbw
   obtain ⟨hbw, rfl | ⟨rfl, rfl⟩ | ⟨rfl, rfl, rfl⟩⟩ := hrel
   · have tix := idx2_0 (.int .i64 (-2)) (.int .i64 2) wr
     cases x2 with
     | true =>
      go_wp2_with fail
      have K := hid (show ∀ W, Below wr.heap.size wr W → W.cell? ⟨R, 0, none⟩ = some (.string T) from fun W b => (one_facts (HC.out.below (below_up hbw.out b))).1)
      have HRz := hid (HR.out.below hbw.out)
      have g := Below.refl wr.heap.size wr
      go_region_held3 (fun W => W.cell? ⟨R, 0, none⟩ = some (.string T)) (first | exact K.out _ g | exact K.out _ ⟨g.os, g.tape, g.output, g.size, g.block⟩) (first | (go_at_call 66; (with_reducible refine (CT2.out _ ?_).mono ?_); (first | exact HRz.out.below g | exact HRz.out.below ⟨g.os, g.tape, g.output, g.size, g.block⟩); (rintro e y ⟨rfl, k'⟩); (have g : Below wr.heap.size wr y := below_up (by first | exact g | exact ⟨g.os, g.tape, g.output, g.size, g.block⟩) k')) | (go_at_call 71; (with_reducible refine (CP2.out _).mono ?_); (rintro e y' ⟨rfl, rfl⟩)))
      all_goals (
       have PE := below_up hbw.out (show Below wr.heap.size wr _ by first | exact g | exact ⟨g.os, g.tape, g.output, g.size, g.block⟩)
       obtain ⟨q0, q1⟩ := one_facts (HC.out.below PE)
       have PE' := hid PE
       clear PE
       obtain ⟨a1, a2⟩ := HA2.out (by trivial)
       have BY1 := hid a1; have BY2 := hid a2
       clear a1 a2 g
       go_wp2
       go_ret
       exact ⟨by rw [HS.out]; rfl, A2, by rw [HS.out]; exact BY1.out, BY2.out, _, (by first | exact PE'.out | exact ⟨PE'.out.os, PE'.out.tape, PE'.out.output, PE'.out.size, PE'.out.block⟩), .inr rfl⟩)
     | false =>
      go_wp2_with fail
      have K := hid (show ∀ W, Below wr.heap.size wr W → W.cell? ⟨R, 0, none⟩ = some (.string T) from fun W b => (one_facts (HC.out.below (below_up hbw.out b))).1)
      have HRz := hid (HR.out.below hbw.out)
      have g := Below.refl wr.heap.size wr
      go_region_held3 (fun W => W.cell? ⟨R, 0, none⟩ = some (.string T)) (first | exact K.out _ g | exact K.out _ ⟨g.os, g.tape, g.output, g.size, g.block⟩) (first | (go_at_call 66; (with_reducible refine (CT2.out _ ?_).mono ?_); (first | exact HRz.out.below g | exact HRz.out.below ⟨g.os, g.tape, g.output, g.size, g.block⟩); (rintro e y ⟨rfl, k'⟩); (have g : Below wr.heap.size wr y := below_up (by first | exact g | exact ⟨g.os, g.tape, g.output, g.size, g.block⟩) k')) | (go_at_call 71; (with_reducible refine (CP2.out _).mono ?_); (rintro e y' ⟨rfl, rfl⟩)))
      all_goals (
       have PE := hid (below_up hbw.out (show Below wr.heap.size wr _ by first | exact g | exact ⟨g.os, g.tape, g.output, g.size, g.block⟩))
       clear g
       go_wp2_with fail
       go_roundw
       case rel => exact ⟨hid (by first | exact PE.out | exact ⟨PE.out.os, PE.out.tape, PE.out.output, PE.out.size, PE.out.block⟩), .inr (.inl ⟨rfl, by trivial⟩)⟩
       case measure => simp [RowKit.intOf])
   · have tix := idx2_1 (.int .i64 (-2)) (.int .i64 2) wr
     cases x3 with
     | true =>
      go_wp2_with fail
      have K := hid (show ∀ W, Below wr.heap.size wr W → W.cell? ⟨R, 0, none⟩ = some (.string T) from fun W b => (one_facts (HC.out.below (below_up hbw.out b))).1)
      have HRz := hid (HR.out.below hbw.out)
      have g := Below.refl wr.heap.size wr
      go_region_held3 (fun W => W.cell? ⟨R, 0, none⟩ = some (.string T)) (first | exact K.out _ g | exact K.out _ ⟨g.os, g.tape, g.output, g.size, g.block⟩) (first | (go_at_call 66; (with_reducible refine (CT3.out _ ?_).mono ?_); (first | exact HRz.out.below g | exact HRz.out.below ⟨g.os, g.tape, g.output, g.size, g.block⟩); (rintro e y ⟨rfl, k'⟩); (have g : Below wr.heap.size wr y := below_up (by first | exact g | exact ⟨g.os, g.tape, g.output, g.size, g.block⟩) k')) | (go_at_call 71; (with_reducible refine (CP3.out _).mono ?_); (rintro e y' ⟨rfl, rfl⟩)))
      all_goals (
       have PE := below_up hbw.out (show Below wr.heap.size wr _ by first | exact g | exact ⟨g.os, g.tape, g.output, g.size, g.block⟩)
       obtain ⟨q0, q1⟩ := one_facts (HC.out.below PE)
       have PE' := hid PE
       clear PE
       obtain ⟨a1, a2⟩ := HA3.out (by trivial)
       have BY1 := hid a1; have BY2 := hid a2
       clear a1 a2 g
       go_wp2
       go_ret
       exact ⟨by rw [HS.out]; rfl, A3, by rw [HS.out]; exact BY1.out, BY2.out, _, (by first | exact PE'.out | exact ⟨PE'.out.os, PE'.out.tape, PE'.out.output, PE'.out.size, PE'.out.block⟩), .inr rfl⟩)
     | false =>
      go_wp2_with fail
      have K := hid (show ∀ W, Below wr.heap.size wr W → W.cell? ⟨R, 0, none⟩ = some (.string T) from fun W b => (one_facts (HC.out.below (below_up hbw.out b))).1)
      have HRz := hid (HR.out.below hbw.out)
      have g := Below.refl wr.heap.size wr
      go_region_held3 (fun W => W.cell? ⟨R, 0, none⟩ = some (.string T)) (first | exact K.out _ g | exact K.out _ ⟨g.os, g.tape, g.output, g.size, g.block⟩) (first | (go_at_call 66; (with_reducible refine (CT3.out _ ?_).mono ?_); (first | exact HRz.out.below g | exact HRz.out.below ⟨g.os, g.tape, g.output, g.size, g.block⟩); (rintro e y ⟨rfl, k'⟩); (have g : Below wr.heap.size wr y := below_up (by first | exact g | exact ⟨g.os, g.tape, g.output, g.size, g.block⟩) k')) | (go_at_call 71; (with_reducible refine (CP3.out _).mono ?_); (rintro e y' ⟨rfl, rfl⟩)))
      all_goals (
       have PE := hid (below_up hbw.out (show Below wr.heap.size wr _ by first | exact g | exact ⟨g.os, g.tape, g.output, g.size, g.block⟩))
       clear g
       go_wp2_with fail
       go_roundw
       case rel => exact ⟨hid (by first | exact PE.out | exact ⟨PE.out.os, PE.out.tape, PE.out.output, PE.out.size, PE.out.block⟩), .inr (.inr ⟨rfl, by trivial, by trivial⟩)⟩
       case measure => simp [RowKit.intOf])
   go_wp2_with fail
   go_roundw
   case rel => exact ⟨hbw, .inr (.inr (.inl ⟨rfl, by trivial, by trivial, by trivial, by trivial⟩))⟩
   case measure => simp [RowKit.intOf]
 · go_wp2_with fail
   go_loopw [17] (fun j wr => Hid (Below w.heap.size w wr) ∧ ((j = .int .i64 0) ∨ (j = .int .i64 1 ∧ x4 = false) ∨ (j = .int .i64 2 ∧ x4 = false ∧ x5 = false))) (fun j _ => 2 - (RowKit.intOf j).toNat)
   case atStart => exact ⟨hbw, .inl rfl⟩
   clear hbw
   obtain ⟨hbw, rfl | ⟨rfl, rfl⟩ | ⟨rfl, rfl, rfl⟩⟩ := hrel
   · have tix := idx2_0 (.int .i64 (-1)) (.int .i64 1) wr
     cases x4 with
     | true =>
      go_wp2_with fail
      have K := hid (show ∀ W, Below wr.heap.size wr W → W.cell? ⟨R, 0, none⟩ = some (.string T) from fun W b => (one_facts (HC.out.below (below_up hbw.out b))).1)
      have HRz := hid (HR.out.below hbw.out)
      have g := Below.refl wr.heap.size wr
      go_region_held3 (fun W => W.cell? ⟨R, 0, none⟩ = some (.string T)) (first | exact K.out _ g | exact K.out _ ⟨g.os, g.tape, g.output, g.size, g.block⟩) (first | (go_at_call 66; (with_reducible refine (CT4.out _ ?_).mono ?_); (first | exact HRz.out.below g | exact HRz.out.below ⟨g.os, g.tape, g.output, g.size, g.block⟩); (rintro e y ⟨rfl, k'⟩); (have g : Below wr.heap.size wr y := below_up (by first | exact g | exact ⟨g.os, g.tape, g.output, g.size, g.block⟩) k')) | (go_at_call 71; (with_reducible refine (CP4.out _).mono ?_); (rintro e y' ⟨rfl, rfl⟩)))
      all_goals (
       have PE := below_up hbw.out (show Below wr.heap.size wr _ by first | exact g | exact ⟨g.os, g.tape, g.output, g.size, g.block⟩)
       obtain ⟨q0, q1⟩ := one_facts (HC.out.below PE)
       have PE' := hid PE
       clear PE
       obtain ⟨a1, a2⟩ := HA4.out (by trivial)
       have BY1 := hid a1; have BY2 := hid a2
       clear a1 a2 g
       go_wp2
       go_ret
       exact ⟨by rw [HS.out]; rfl, A4, by rw [HS.out]; exact BY1.out, BY2.out, _, (by first | exact PE'.out | exact ⟨PE'.out.os, PE'.out.tape, PE'.out.output, PE'.out.size, PE'.out.block⟩), .inr rfl⟩)
     | false =>
      go_wp2_with fail
      have K := hid (show ∀ W, Below wr.heap.size wr W → W.cell? ⟨R, 0, none⟩ = some (.string T) from fun W b => (one_facts (HC.out.below (below_up hbw.out b))).1)
      have HRz := hid (HR.out.below hbw.out)
      have g := Below.refl wr.heap.size wr
      go_region_held3 (fun W => W.cell? ⟨R, 0, none⟩ = some (.string T)) (first | exact K.out _ g | exact K.out _ ⟨g.os, g.tape, g.output, g.size, g.block⟩) (first | (go_at_call 66; (with_reducible refine (CT4.out _ ?_).mono ?_); (first | exact HRz.out.below g | exact HRz.out.below ⟨g.os, g.tape, g.output, g.size, g.block⟩); (rintro e y ⟨rfl, k'⟩); (have g : Below wr.heap.size wr y := below_up (by first | exact g | exact ⟨g.os, g.tape, g.output, g.size, g.block⟩) k')) | (go_at_call 71; (with_reducible refine (CP4.out _).mono ?_); (rintro e y' ⟨rfl, rfl⟩)))
      all_goals (
       have PE := hid (below_up hbw.out (show Below wr.heap.size wr _ by first | exact g | exact ⟨g.os, g.tape, g.output, g.size, g.block⟩))
       clear g
       go_wp2_with fail
       go_roundw
       case rel => exact ⟨hid (by first | exact PE.out | exact ⟨PE.out.os, PE.out.tape, PE.out.output, PE.out.size, PE.out.block⟩), .inr (.inl ⟨rfl, by trivial⟩)⟩
       case measure => simp [RowKit.intOf])
   · have tix := idx2_1 (.int .i64 (-1)) (.int .i64 1) wr
     cases x5 with
     | true =>
      go_wp2_with fail
      have K := hid (show ∀ W, Below wr.heap.size wr W → W.cell? ⟨R, 0, none⟩ = some (.string T) from fun W b => (one_facts (HC.out.below (below_up hbw.out b))).1)
      have HRz := hid (HR.out.below hbw.out)
      have g := Below.refl wr.heap.size wr
      go_region_held3 (fun W => W.cell? ⟨R, 0, none⟩ = some (.string T)) (first | exact K.out _ g | exact K.out _ ⟨g.os, g.tape, g.output, g.size, g.block⟩) (first | (go_at_call 66; (with_reducible refine (CT5.out _ ?_).mono ?_); (first | exact HRz.out.below g | exact HRz.out.below ⟨g.os, g.tape, g.output, g.size, g.block⟩); (rintro e y ⟨rfl, k'⟩); (have g : Below wr.heap.size wr y := below_up (by first | exact g | exact ⟨g.os, g.tape, g.output, g.size, g.block⟩) k')) | (go_at_call 71; (with_reducible refine (CP5.out _).mono ?_); (rintro e y' ⟨rfl, rfl⟩)))
      all_goals (
       have PE := below_up hbw.out (show Below wr.heap.size wr _ by first | exact g | exact ⟨g.os, g.tape, g.output, g.size, g.block⟩)
       obtain ⟨q0, q1⟩ := one_facts (HC.out.below PE)
       have PE' := hid PE
       clear PE
       obtain ⟨a1, a2⟩ := HA5.out (by trivial)
       have BY1 := hid a1; have BY2 := hid a2
       clear a1 a2 g
       go_wp2
       go_ret
       exact ⟨by rw [HS.out]; rfl, A5, by rw [HS.out]; exact BY1.out, BY2.out, _, (by first | exact PE'.out | exact ⟨PE'.out.os, PE'.out.tape, PE'.out.output, PE'.out.size, PE'.out.block⟩), .inr rfl⟩)
     | false =>
      go_wp2_with fail
      have K := hid (show ∀ W, Below wr.heap.size wr W → W.cell? ⟨R, 0, none⟩ = some (.string T) from fun W b => (one_facts (HC.out.below (below_up hbw.out b))).1)
      have HRz := hid (HR.out.below hbw.out)
      have g := Below.refl wr.heap.size wr
      go_region_held3 (fun W => W.cell? ⟨R, 0, none⟩ = some (.string T)) (first | exact K.out _ g | exact K.out _ ⟨g.os, g.tape, g.output, g.size, g.block⟩) (first | (go_at_call 66; (with_reducible refine (CT5.out _ ?_).mono ?_); (first | exact HRz.out.below g | exact HRz.out.below ⟨g.os, g.tape, g.output, g.size, g.block⟩); (rintro e y ⟨rfl, k'⟩); (have g : Below wr.heap.size wr y := below_up (by first | exact g | exact ⟨g.os, g.tape, g.output, g.size, g.block⟩) k')) | (go_at_call 71; (with_reducible refine (CP5.out _).mono ?_); (rintro e y' ⟨rfl, rfl⟩)))
      all_goals (
       have PE := hid (below_up hbw.out (show Below wr.heap.size wr _ by first | exact g | exact ⟨g.os, g.tape, g.output, g.size, g.block⟩))
       clear g
       go_wp2_with fail
       go_roundw
       case rel => exact ⟨hid (by first | exact PE.out | exact ⟨PE.out.os, PE.out.tape, PE.out.output, PE.out.size, PE.out.block⟩), .inr (.inr ⟨rfl, by trivial, by trivial⟩)⟩
       case measure => simp [RowKit.intOf])
   go_wp2_with fail
   go_roundw
   case rel => exact ⟨hbw, .inr (.inr (.inr (⟨rfl, by trivial, by trivial, by trivial, by trivial, by trivial, by trivial⟩)))⟩
   case measure => simp [RowKit.intOf]
 go_wp2
 go_ret
 exact ⟨by rw [HS.out]; rfl, T, by rw [HS.out]; rfl, Nat.le_refl _, wr, hbw.out, .inl ⟨rfl, rfl⟩⟩
def ParSt (s : ByteArray) (L : List Nat) (R A : Nat) (a b c d : Int) (T : ByteArray) (W : World) : Prop :=
 bytesL T = L ∧ T.size ≤ s.size ∧ CellsAt W R [.string T] ∧ CellsAt W A [.int .i64 a, .int .i64 b, .int .i64 c, .int .i64 d]
theorem text_empty {T : ByteArray} (h : bytesL T = []) : T = ⟨#[]⟩ := bytesL_inj (h.trans (show ([] : List Nat) = bytesL ⟨#[]⟩ from rfl))
theorem text_some {T : ByteArray} (h : bytesL T ≠ []) : (T.toList == ([] : List UInt8)) = false ∧ (T.toList == (⟨#[]⟩ : ByteArray).toList) = false := by
 have h1 : (T.toList == (⟨#[]⟩ : ByteArray).toList) = false := by
  rw [str_eq_iff]
  exact decide_eq_false (fun e => h (by rw [e]; rfl))
 exact ⟨by rw [← h1, ByteArray.toList_eq ⟨#[]⟩], h1⟩
theorem fin_par {s : ByteArray} (h : (expT s).2.2.2.2 = []) : (decide (parE (fracT s) = 0) && okU (parN (fracT s)) (parD (fracT s)) (expT s).1 (expT s).2.1 (expT s).2.2.1 (expT s).2.2.2.1) = parUB s := by
 rw [par_ok]
 unfold parUB
 rw [decide_eq_true h, Bool.true_and]
theorem par_bad {s : ByteArray} (h : (expT s).2.2.2.2 ≠ []) : parUB s = false := by
 unfold parUB
 rw [decide_eq_false h, Bool.false_and]
theorem par_text {s : ByteArray} (h : parUB s = true) : parseB (fracT s) = true := by
 unfold parUB at h
 simp only [Bool.and_eq_true] at h
 exact h.2.1
theorem parse_u (s : ByteArray) (hs : s.size ≤ 1000000) (w : World) (hR : Set5 w) : Calls Tryz.prog 31 #[.string s] w fun e w' => e = .returned (.tuple #[.agg #[.string (parQt s).n, .string (parQt s).d, .int .i64 (parQt s).t, .int .i64 (parQt s).b, .int .i64 (parQt s).m, .int .i64 (parQt s).c], .int .i64 (eU (parUB s))]) ∧ Below w.heap.size w w' := by
 obtain ⟨W0, hW0, b0, s0, hcc⟩ := lay1 w (.string ⟨#[]⟩) [.string ⟨#[]⟩, .int .i64 0, .int .i64 0, .int .i64 0, .int .i64 0] 27
 have HW := hid hW0; have B0 := hid b0; have HR := hid (hR.below b0); have HC := hid hcc
 clear hW0 b0 hcc hR
 have hfs := frac_size s
 have cc := fun W => spacecut_any s (by omega) W
 have hsl := fun W => slice_off s (fracT s).size hfs W
 rw [show s.extract (fracT s).size s.size = restT s from rfl] at hsl
 have hrb := restT_bytes s
 have hrs : (restT s).size ≤ s.size := by unfold restT; rw [ByteArray.size_extract]; omega
 have cp := fun W h => parse_q (fracT s) (by omega) W h
 have hps := par_size (fracT s)
 -- what the reading finds
 have hexp : expT s = readU (restL (bytesL s)) := rfl
 have hsame := readP_same (restL (bytesL s))
 obtain ⟨L0, hL⟩ : ∃ v, restL (bytesL s) = v := ⟨_, rfl⟩
 rw [hL] at hrb hexp hsame
 obtain ⟨E0, hE0⟩ : ∃ v, (scanP 0 L0).1 = v := ⟨_, rfl⟩
 obtain ⟨L1, hL0⟩ : ∃ v, (scanP 0 L0).2 = v := ⟨_, rfl⟩
 obtain ⟨E1, hE1⟩ : ∃ v, (scanP 1 L1).1 = v := ⟨_, rfl⟩
 obtain ⟨L2, hL1⟩ : ∃ v, (scanP 1 L1).2 = v := ⟨_, rfl⟩
 obtain ⟨E2, hE2⟩ : ∃ v, (scanP 2 L2).1 = v := ⟨_, rfl⟩
 obtain ⟨L3, hL2⟩ : ∃ v, (scanP 2 L2).2 = v := ⟨_, rfl⟩
 obtain ⟨E3, hE3⟩ : ∃ v, (scanP 3 L3).1 = v := ⟨_, rfl⟩
 obtain ⟨L4, hL3⟩ : ∃ v, (scanP 3 L3).2 = v := ⟨_, rfl⟩
 have hread : readP L0 = (E0, E1, E2, E3, L4) := by unfold readP; rw [hL0, hE0, hL1, hE1, hL2, hE2, hL3, hE3]
 rw [hread, ← hexp] at hsame
 have hyes : L4 = [] → (expT s).1 = E0 ∧ (expT s).2.1 = E1 ∧ (expT s).2.2.1 = E2 ∧ (expT s).2.2.2.1 = E3 ∧ (expT s).2.2.2.2 = [] := fun h => by
  have e := hsame.1 h
  rw [← e]
  exact ⟨rfl, rfl, rfl, rfl, h⟩
 have hno : L4 ≠ [] → (expT s).2.2.2.2 ≠ [] := fun h h2 => by
  have e := hsame.2 h2
  rw [← e] at h2
  exact h h2
 have hck : L4 = [] → ∀ W, Ready W → Calls Tryz.prog 43 #[.agg #[.string (parN (fracT s)), .string (parD (fracT s))], .agg #[.int .i64 E0, .int .i64 E1, .int .i64 E2, .int .i64 E3], .int .i64 (parE (fracT s))] W fun e w' => e = .returned (.tuple #[.agg #[.string (parQt s).n, .string (parQt s).d, .int .i64 (parQt s).t, .int .i64 (parQt s).b, .int .i64 (parQt s).m, .int .i64 (parQt s).c], .int .i64 (eU (parUB s))]) ∧ Below W.heap.size W w' := fun hT W h => by
  obtain ⟨h1, h2, h3, h4, h5⟩ := hyes hT
  have hk := fin_par h5
  rw [h1, h2, h3, h4] at hk
  have hpb : parUB s = true → parseB (fracT s) = true := par_text
  have k := checked_u (parN (fracT s)) (parD (fracT s)) E0 E1 E2 E3 (parE (fracT s)) (by omega) (by omega) W h
  rw [hk] at k
  have e1 : pz (parUB s) (parN (fracT s)) = (parQt s).n := by rw [show pz (parUB s) (parN (fracT s)) = pz (parUB s) (cutN (fracT s)) from (par_out (fracT s) _ hpb).1]; exact (pick_n _ (parQ0 s)).symm
  have e2 : pz (parUB s) (parD (fracT s)) = (parQt s).d := by rw [show pz (parUB s) (parD (fracT s)) = pz (parUB s) (cutD (fracT s)) from (par_out (fracT s) _ hpb).2]; exact (pick_d _ (parQ0 s)).symm
  have e3 : zU (parUB s) E0 = (parQt s).t := by rw [← h1]; exact (pick_t _ (parQ0 s)).symm
  have e4 : zU (parUB s) E1 = (parQt s).b := by rw [← h2]; exact (pick_b _ (parQ0 s)).symm
  have e5 : zU (parUB s) E2 = (parQt s).m := by rw [← h3]; exact (pick_m _ (parQ0 s)).symm
  have e6 : zU (parUB s) E3 = (parQt s).c := by rw [← h4]; exact (pick_c _ (parQ0 s)).symm
  rw [e1, e2, e3, e4, e5, e6] at k
  exact k
 have hbad : L4 ≠ [] → parQt s = zeroQt ∧ eU (parUB s) = 50 := fun h => by
  have hx := par_bad (hno h)
  unfold parQt
  rw [hx]
  exact ⟨rfl, rfl⟩
 generalize parQt s = r at *
 generalize eU (parUB s) = RE at *
 generalize parN (fracT s) = PN at *
 generalize parD (fracT s) = PD at *
 generalize parE (fracT s) = PE at *
 have CK0 := hid hck; have HBAD := hid hbad; have CC := hid cc; have CP := hid cp; have HRB := hid hrb; have HRS := hid hrs; have S0 := hid s0
 clear hsame hread hexp hL cc cp hrb hrs hps hyes hno hck hbad
 generalize fracT s = N at *
 generalize restT s = T0 at *
 go_enter Tryz.func31, Tryz.ntmps31
 go_wp2_with (rw [HW.out])
 refine (CC.out _).mono ?_
 rintro e z1 ⟨⟨CB, CF, rfl⟩, b1⟩
 have B1 := hid b1
 have G1 := hid b1.size
 clear b1
 obtain ⟨z2, hz2, b2, s2, f2⟩ := lay2 z1 (.string T0) [] 9 (.int .i64 0) [.int .i64 0, .int .i64 0, .int .i64 0] 28
 have V2 := hid hz2
 have B2 := hid (below_up B1.out b2)
 have hR' : W0.heap.size ≤ z1.heap.size := G1.out
 obtain ⟨R, hRR⟩ : ∃ R, z1.heap.size = R := ⟨_, rfl⟩
 rw [hRR] at hR' f2
 have HF2 := hid f2; have HRR := hid hRR
 clear hz2 b2 s2 f2 hRR
 go_upto_region 5 with (rw [V2.out])
 have hPS : ParSt s L0 R (R + 1) 0 0 0 0 T0 z2 := ⟨HRB.out, HRS.out, (HF2.out z2 (Below.refl _ _)).1, (HF2.out z2 (Below.refl _ _)).2⟩
 have HPS0 := hid hPS
 clear hPS hfs hs hsl s0
 rw [HRR.out]
 go_wp2_with fail
 go_loopw [24] (fun i wr => Below W0.heap.size W0 wr ∧ ((i = .int .i64 0 ∧ ∃ T, ParSt s L0 R (R + 1) 0 0 0 0 T wr) ∨ (i = .int .i64 1 ∧ ∃ T, ParSt s L1 R (R + 1) E0 0 0 0 T wr) ∨ (i = .int .i64 2 ∧ ∃ T, ParSt s L2 R (R + 1) E0 E1 0 0 T wr) ∨ (i = .int .i64 3 ∧ ∃ T, ParSt s L3 R (R + 1) E0 E1 E2 0 T wr) ∨ (i = .int .i64 4 ∧ ∃ T, ParSt s L4 R (R + 1) E0 E1 E2 E3 T wr))) (fun i _ => 4 - (RowKit.intOf i).toNat)
 case atStart => exact ⟨B2.out, .inl ⟨rfl, T0, HPS0.out⟩⟩
 obtain ⟨hbw, ⟨rfl, T, hl, hst, hRc, hAc⟩ | ⟨rfl, T, hl, hst, hRc, hAc⟩ | ⟨rfl, T, hl, hst, hRc, hAc⟩ | ⟨rfl, T, hl, hst, hRc, hAc⟩ | ⟨rfl, T, hl, hst, hRc, hAc⟩⟩ := hrel
 · have hr5 := HR.out.below hbw
   have cn := next_u 0 (by decide) R T wr hr5.1 hRc
   rw [hl, hE0, hL0] at cn
   have hsz := hcz_lt hAc
   have twd := hr5.2 0 (by decide)
   have CN := hid cn; have HSZ := hid hsz; have HRC := hid hRc; have HAC := hid hAc; have HBW := hid hbw; have HST := hid hst
   clear cn hsz hRc hAc hbw hst hl hr5
   generalize wordB 0 = wd at *
   go_wp2_with fail
   refine CN.out.mono ?_
   rintro e x1 ⟨rfl, T', hl', hs', hn⟩
   obtain ⟨⟨a0, a1, a2, a3⟩, ⟨f0, f1, f2, f3⟩⟩ := four_facts (hn.cells (show R ≠ R + 1 by omega) HAC.out)
   have HN := hid hn; have HL' := hid hl'; have HS' := hid hs'
   clear hn hl' hs' twd
   go_wp2_with fail
   clear a0 a1 a2 a3 f0 f1 f2 f3
   go_roundw
   case rel =>
    have hn := HN.out; have hl' := HL'.out
    have hs'' := Nat.le_trans HS'.out HST.out
    have hRc := HRC.out; have hAc := HAC.out
    exact ⟨(hn.low HBW.out HBW.out.size (by omega)).setCell (p := ⟨R + 1, 0, none⟩) (show W0.heap.size ≤ R + 1 by omega) _, .inr (.inl (⟨rfl, T', hl', hs'', (hn.rest hRc).far (by omega), (hn.cells (by omega) hAc).put 0 (.int .i64 E0)⟩))⟩
   case measure => simp [RowKit.intOf]
 · have hr5 := HR.out.below hbw
   have cn := next_u 1 (by decide) R T wr hr5.1 hRc
   rw [hl, hE1, hL1] at cn
   have hsz := hcz_lt hAc
   have twd := hr5.2 1 (by decide)
   have CN := hid cn; have HSZ := hid hsz; have HRC := hid hRc; have HAC := hid hAc; have HBW := hid hbw; have HST := hid hst
   clear cn hsz hRc hAc hbw hst hl hr5
   generalize wordB 1 = wd at *
   go_wp2_with fail
   refine CN.out.mono ?_
   rintro e x1 ⟨rfl, T', hl', hs', hn⟩
   obtain ⟨⟨a0, a1, a2, a3⟩, ⟨f0, f1, f2, f3⟩⟩ := four_facts (hn.cells (show R ≠ R + 1 by omega) HAC.out)
   have HN := hid hn; have HL' := hid hl'; have HS' := hid hs'
   clear hn hl' hs' twd
   go_wp2_with fail
   clear a0 a1 a2 a3 f0 f1 f2 f3
   go_roundw
   case rel =>
    have hn := HN.out; have hl' := HL'.out
    have hs'' := Nat.le_trans HS'.out HST.out
    have hRc := HRC.out; have hAc := HAC.out
    exact ⟨(hn.low HBW.out HBW.out.size (by omega)).setCell (p := ⟨R + 1, 1, none⟩) (show W0.heap.size ≤ R + 1 by omega) _, .inr (.inr (.inl (⟨rfl, T', hl', hs'', (hn.rest hRc).far (by omega), (hn.cells (by omega) hAc).put 1 (.int .i64 E1)⟩)))⟩
   case measure => simp [RowKit.intOf]
 · have hr5 := HR.out.below hbw
   have cn := next_u 2 (by decide) R T wr hr5.1 hRc
   rw [hl, hE2, hL2] at cn
   have hsz := hcz_lt hAc
   have twd := hr5.2 2 (by decide)
   have CN := hid cn; have HSZ := hid hsz; have HRC := hid hRc; have HAC := hid hAc; have HBW := hid hbw; have HST := hid hst
   clear cn hsz hRc hAc hbw hst hl hr5
   generalize wordB 2 = wd at *
   go_wp2_with fail
   refine CN.out.mono ?_
   rintro e x1 ⟨rfl, T', hl', hs', hn⟩
   obtain ⟨⟨a0, a1, a2, a3⟩, ⟨f0, f1, f2, f3⟩⟩ := four_facts (hn.cells (show R ≠ R + 1 by omega) HAC.out)
   have HN := hid hn; have HL' := hid hl'; have HS' := hid hs'
   clear hn hl' hs' twd
   go_wp2_with fail
   clear a0 a1 a2 a3 f0 f1 f2 f3
   go_roundw
   case rel =>
    have hn := HN.out; have hl' := HL'.out
    have hs'' := Nat.le_trans HS'.out HST.out
    have hRc := HRC.out; have hAc := HAC.out
    exact ⟨(hn.low HBW.out HBW.out.size (by omega)).setCell (p := ⟨R + 1, 2, none⟩) (show W0.heap.size ≤ R + 1 by omega) _, .inr (.inr (.inr (.inl (⟨rfl, T', hl', hs'', (hn.rest hRc).far (by omega), (hn.cells (by omega) hAc).put 2 (.int .i64 E2)⟩))))⟩
   case measure => simp [RowKit.intOf]
 · have hr5 := HR.out.below hbw
   have cn := next_u 3 (by decide) R T wr hr5.1 hRc
   rw [hl, hE3, hL3] at cn
   have hsz := hcz_lt hAc
   have twd := hr5.2 3 (by decide)
   have CN := hid cn; have HSZ := hid hsz; have HRC := hid hRc; have HAC := hid hAc; have HBW := hid hbw; have HST := hid hst
   clear cn hsz hRc hAc hbw hst hl hr5
   generalize wordB 3 = wd at *
   go_wp2_with fail
   refine CN.out.mono ?_
   rintro e x1 ⟨rfl, T', hl', hs', hn⟩
   obtain ⟨⟨a0, a1, a2, a3⟩, ⟨f0, f1, f2, f3⟩⟩ := four_facts (hn.cells (show R ≠ R + 1 by omega) HAC.out)
   have HN := hid hn; have HL' := hid hl'; have HS' := hid hs'
   clear hn hl' hs' twd
   go_wp2_with fail
   clear a0 a1 a2 a3 f0 f1 f2 f3
   go_roundw
   case rel =>
    have hn := HN.out; have hl' := HL'.out
    have hs'' := Nat.le_trans HS'.out HST.out
    have hRc := HRC.out; have hAc := HAC.out
    exact ⟨(hn.low HBW.out HBW.out.size (by omega)).setCell (p := ⟨R + 1, 3, none⟩) (show W0.heap.size ≤ R + 1 by omega) _, .inr (.inr (.inr (.inr (⟨rfl, T', hl', hs'', (hn.rest hRc).far (by omega), (hn.cells (by omega) hAc).put 3 (.int .i64 E3)⟩))))⟩
   case measure => simp [RowKit.intOf]
 by_cases hT : L4 = []
 · have e0 := text_empty (hl.trans hT)
   subst e0
   have ck := CK0.out hT
   have cu := fun W => unitOf_u E0 E1 E2 E3 W
   have hrl := hcz_lt hRc
   have hal := hcz_lt hAc
   have hr5 := HR.out.below hbw
   obtain ⟨q0, _⟩ := one_facts hRc
   have CK := hid ck; have CU := hid cu; have HAC := hid hAc; have HBW := hid hbw; have HR5 := hid hr5
   clear ck cu hAc hbw hr5 hRc hT hl hst
   go_wp2_with fail
   refine (CP.out _ HR5.out.1).mono ?_
   rintro e z2' ⟨rfl, b3⟩
   have hal2 : R + 1 < z2'.heap.size := Nat.lt_of_lt_of_le hal b3.size
   obtain ⟨z3, hz3, b4, s4, f4⟩ := lay1 z2' (.string PN) [.string PD] 23
   have V3 := hid hz3; have F4 := hid f4
   have B3 := hid (below_up b3 b4)
   have BW := hid (below_up HBW.out B3.out)
   clear hz3 f4 b3 b4 s4 q0
   go_upto_region 13 with (rw [V3.out])
   have hw0 := S0.out
   have KS := hid (show ∀ W, Below z3.heap.size z3 W → ((W.cell? ⟨z2'.heap.size, 0, none⟩ = some (.string PN) ∧ W.cell? ⟨z2'.heap.size, 1, none⟩ = some (.string PD)) ∧ (W.cell? ⟨R + 1, 0, none⟩ = some (.int .i64 E0) ∧ W.cell? ⟨R + 1, 1, none⟩ = some (.int .i64 E1) ∧ W.cell? ⟨R + 1, 2, none⟩ = some (.int .i64 E2) ∧ W.cell? ⟨R + 1, 3, none⟩ = some (.int .i64 E3))) from fun W b => by
    have h1 := (two_facts (F4.out W b)).1
    have h2 := (four_facts (HAC.out.below (below_up B3.out b))).1
    exact ⟨h1, h2⟩)
   have KS6 := hid (show ∀ W x0 x1 x2 x3 x4 x5, Below z3.heap.size z3 W → (((((((((W.setCell ⟨w.heap.size, 0, none⟩ (x0)).setCell ⟨w.heap.size, 1, none⟩ (x1)).setCell ⟨w.heap.size, 2, none⟩ (x2)).setCell ⟨w.heap.size, 3, none⟩ (x3)).setCell ⟨w.heap.size, 4, none⟩ (x4)).setCell ⟨w.heap.size, 5, none⟩ (x5))).cell? ⟨z2'.heap.size, 0, none⟩ = some (.string PN) ∧ (((((((W.setCell ⟨w.heap.size, 0, none⟩ (x0)).setCell ⟨w.heap.size, 1, none⟩ (x1)).setCell ⟨w.heap.size, 2, none⟩ (x2)).setCell ⟨w.heap.size, 3, none⟩ (x3)).setCell ⟨w.heap.size, 4, none⟩ (x4)).setCell ⟨w.heap.size, 5, none⟩ (x5))).cell? ⟨z2'.heap.size, 1, none⟩ = some (.string PD)) ∧ ((((((((W.setCell ⟨w.heap.size, 0, none⟩ (x0)).setCell ⟨w.heap.size, 1, none⟩ (x1)).setCell ⟨w.heap.size, 2, none⟩ (x2)).setCell ⟨w.heap.size, 3, none⟩ (x3)).setCell ⟨w.heap.size, 4, none⟩ (x4)).setCell ⟨w.heap.size, 5, none⟩ (x5))).cell? ⟨R + 1, 0, none⟩ = some (.int .i64 E0) ∧ (((((((W.setCell ⟨w.heap.size, 0, none⟩ (x0)).setCell ⟨w.heap.size, 1, none⟩ (x1)).setCell ⟨w.heap.size, 2, none⟩ (x2)).setCell ⟨w.heap.size, 3, none⟩ (x3)).setCell ⟨w.heap.size, 4, none⟩ (x4)).setCell ⟨w.heap.size, 5, none⟩ (x5))).cell? ⟨R + 1, 1, none⟩ = some (.int .i64 E1) ∧ (((((((W.setCell ⟨w.heap.size, 0, none⟩ (x0)).setCell ⟨w.heap.size, 1, none⟩ (x1)).setCell ⟨w.heap.size, 2, none⟩ (x2)).setCell ⟨w.heap.size, 3, none⟩ (x3)).setCell ⟨w.heap.size, 4, none⟩ (x4)).setCell ⟨w.heap.size, 5, none⟩ (x5))).cell? ⟨R + 1, 2, none⟩ = some (.int .i64 E2) ∧ (((((((W.setCell ⟨w.heap.size, 0, none⟩ (x0)).setCell ⟨w.heap.size, 1, none⟩ (x1)).setCell ⟨w.heap.size, 2, none⟩ (x2)).setCell ⟨w.heap.size, 3, none⟩ (x3)).setCell ⟨w.heap.size, 4, none⟩ (x4)).setCell ⟨w.heap.size, 5, none⟩ (x5))).cell? ⟨R + 1, 3, none⟩ = some (.int .i64 E3))) from fun W x0 x1 x2 x3 x4 x5 b => by
    have h1 := (two_facts (far6 (F4.out W b) (show w.heap.size ≠ z2'.heap.size by omega) x0 x1 x2 x3 x4 x5)).1
    have h2 := (four_facts (far6 (HAC.out.below (below_up B3.out b)) (show w.heap.size ≠ R + 1 by omega) x0 x1 x2 x3 x4 x5)).1
    exact ⟨h1, h2⟩)
   have KS6d := hid (show ∀ W x0 x1 x2 x3 x4 x5, Below z3.heap.size z3 W → ((((((((((W.setCell ⟨w.heap.size, 0, none⟩ (x0)).setCell ⟨w.heap.size, 1, none⟩ (x1)).setCell ⟨w.heap.size, 2, none⟩ (x2)).setCell ⟨w.heap.size, 3, none⟩ (x3)).setCell ⟨w.heap.size, 4, none⟩ (x4)).setCell ⟨w.heap.size, 5, none⟩ (x5))).drew).cell? ⟨z2'.heap.size, 0, none⟩ = some (.string PN) ∧ ((((((((W.setCell ⟨w.heap.size, 0, none⟩ (x0)).setCell ⟨w.heap.size, 1, none⟩ (x1)).setCell ⟨w.heap.size, 2, none⟩ (x2)).setCell ⟨w.heap.size, 3, none⟩ (x3)).setCell ⟨w.heap.size, 4, none⟩ (x4)).setCell ⟨w.heap.size, 5, none⟩ (x5))).drew).cell? ⟨z2'.heap.size, 1, none⟩ = some (.string PD)) ∧ (((((((((W.setCell ⟨w.heap.size, 0, none⟩ (x0)).setCell ⟨w.heap.size, 1, none⟩ (x1)).setCell ⟨w.heap.size, 2, none⟩ (x2)).setCell ⟨w.heap.size, 3, none⟩ (x3)).setCell ⟨w.heap.size, 4, none⟩ (x4)).setCell ⟨w.heap.size, 5, none⟩ (x5))).drew).cell? ⟨R + 1, 0, none⟩ = some (.int .i64 E0) ∧ ((((((((W.setCell ⟨w.heap.size, 0, none⟩ (x0)).setCell ⟨w.heap.size, 1, none⟩ (x1)).setCell ⟨w.heap.size, 2, none⟩ (x2)).setCell ⟨w.heap.size, 3, none⟩ (x3)).setCell ⟨w.heap.size, 4, none⟩ (x4)).setCell ⟨w.heap.size, 5, none⟩ (x5))).drew).cell? ⟨R + 1, 1, none⟩ = some (.int .i64 E1) ∧ ((((((((W.setCell ⟨w.heap.size, 0, none⟩ (x0)).setCell ⟨w.heap.size, 1, none⟩ (x1)).setCell ⟨w.heap.size, 2, none⟩ (x2)).setCell ⟨w.heap.size, 3, none⟩ (x3)).setCell ⟨w.heap.size, 4, none⟩ (x4)).setCell ⟨w.heap.size, 5, none⟩ (x5))).drew).cell? ⟨R + 1, 2, none⟩ = some (.int .i64 E2) ∧ ((((((((W.setCell ⟨w.heap.size, 0, none⟩ (x0)).setCell ⟨w.heap.size, 1, none⟩ (x1)).setCell ⟨w.heap.size, 2, none⟩ (x2)).setCell ⟨w.heap.size, 3, none⟩ (x3)).setCell ⟨w.heap.size, 4, none⟩ (x4)).setCell ⟨w.heap.size, 5, none⟩ (x5))).drew).cell? ⟨R + 1, 3, none⟩ = some (.int .i64 E3))) from fun W x0 x1 x2 x3 x4 x5 b => by
    have h1 := (two_facts (far6 (F4.out W b) (show w.heap.size ≠ z2'.heap.size by omega) x0 x1 x2 x3 x4 x5).drew).1
    have h2 := (four_facts (far6 (HAC.out.below (below_up B3.out b)) (show w.heap.size ≠ R + 1 by omega) x0 x1 x2 x3 x4 x5).drew).1
    exact ⟨h1, h2⟩)
   have HRz := hid (HR5.out.1.below B3.out)
   have HQ := hid (fun W (b : Below z3.heap.size z3 W) => HC.out W (below_up BW.out b))
   have g := Below.refl z3.heap.size z3
   go_region_held3 (fun W => (W.cell? ⟨z2'.heap.size, 0, none⟩ = some (.string PN) ∧ W.cell? ⟨z2'.heap.size, 1, none⟩ = some (.string PD)) ∧ (W.cell? ⟨R + 1, 0, none⟩ = some (.int .i64 E0) ∧ W.cell? ⟨R + 1, 1, none⟩ = some (.int .i64 E1) ∧ W.cell? ⟨R + 1, 2, none⟩ = some (.int .i64 E2) ∧ W.cell? ⟨R + 1, 3, none⟩ = some (.int .i64 E3))) (first | with_reducible exact KS.out _ g | with_reducible exact KS.out _ g.drew | with_reducible exact KS6.out _ _ _ _ _ _ _ g | with_reducible exact KS6.out _ _ _ _ _ _ _ g.drew | with_reducible exact KS6d.out _ _ _ _ _ _ _ g) (first | (go_at_call 73; (with_reducible refine (CU.out _).mono ?_); (rintro e y ⟨rfl, k'⟩); (have g : Below z3.heap.size z3 y := below_up (by first | with_reducible exact g | with_reducible exact g.drew) k')) | (go_at_call 43; (with_reducible refine (CK.out _ ?_).mono ?_); (first | with_reducible exact HRz.out.below g | with_reducible exact HRz.out.below g.drew); (rintro e y ⟨rfl, k'⟩); (have g : Below z3.heap.size z3 y := below_up (by first | with_reducible exact g | with_reducible exact g.drew) k'); (obtain ⟨⟨r0, r1, r2, r3, r4, r5⟩, ⟨r6, r7, r8, r9, ra, rb⟩⟩ := six_facts (HQ.out _ g))))
   all_goals (
    have PE := hid (show Below z3.heap.size z3 _ from g)
    clear g
    go_wp2
    first | exact bodyPost_ret (v := .tuple #[.agg #[.string r.n, .string r.d, .int .i64 r.t, .int .i64 r.b, .int .i64 r.m, .int .i64 r.c], .int .i64 RE]) (by simp [results, Tryz.results31, go_sem, r0, r1, r2, r3, r4, r5]) rfl ⟨rfl, low6 (Nat.le_refl _) (below_up B0.out (below_up BW.out PE.out)) _ _ _ _ _ _⟩ | exact bodyPost_ret (v := .tuple #[.agg #[.string r.n, .string r.d, .int .i64 r.t, .int .i64 r.b, .int .i64 r.m, .int .i64 r.c], .int .i64 RE]) (by simp [results, Tryz.results31, go_sem, r0, r1, r2, r3, r4, r5]) rfl ⟨rfl, (low6 (Nat.le_refl _) (below_up B0.out (below_up BW.out PE.out)) _ _ _ _ _ _).drew⟩)
 obtain ⟨hr, hx⟩ := HBAD.out hT
 subst hr hx
 obtain ⟨t1, t2⟩ := text_some (T := T) (by rw [hl]; exact hT)
 obtain ⟨q0, _⟩ := one_facts hRc
 have hq := HC.out wr hbw
 obtain ⟨y, hy⟩ : ∃ y, ((((((wr.setCell ⟨w.heap.size, 0, none⟩ (.string ⟨#[]⟩)).setCell ⟨w.heap.size, 1, none⟩ (.string ⟨#[]⟩)).setCell ⟨w.heap.size, 2, none⟩ (.int .i64 0)).setCell ⟨w.heap.size, 3, none⟩ (.int .i64 0)).setCell ⟨w.heap.size, 4, none⟩ (.int .i64 0)).setCell ⟨w.heap.size, 5, none⟩ (.int .i64 0)) = y := ⟨_, rfl⟩
 have KY := hid (show CellsAt y w.heap.size [.string ⟨#[]⟩, .string ⟨#[]⟩, .int .i64 0, .int .i64 0, .int .i64 0, .int .i64 0] by rw [← hy]; exact put6 hq _ _ _ _ _ _)
 have BY := hid (show Below w.heap.size w y by rw [← hy]; exact low6 (Nat.le_refl _) (below_up B0.out hbw) _ _ _ _ _ _)
 have HY := hid hy
 obtain ⟨⟨r0, r1, r2, r3, r4, r5⟩, ⟨r6, r7, r8, r9, ra, rb⟩⟩ := six_facts hq
 clear hy hq hT hl hst hRc hAc hbw
 go_wp2_with (rw [HY.out])
 obtain ⟨⟨s0, s1, s2, s3, s4, s5⟩, _⟩ := six_facts KY.out
 exact bodyPost_ret (v := .tuple #[.agg #[.string ⟨#[]⟩, .string ⟨#[]⟩, .int .i64 0, .int .i64 0, .int .i64 0, .int .i64 0], .int .i64 50]) (by simp [results, Tryz.results31, go_sem, s0, s1, s2, s3, s4, s5]) rfl ⟨rfl, BY.out⟩
theorem pick5_any (c n : Int) (hlo : -9223372036854775808 ≤ c) (hhi : c ≤ 9223372036854775807) (h0 : 0 < n) (h1 : n ≤ 4611686018427387904) (w : World) :
 Calls Tryz.prog 38 #[.int .i64 c, .int .i64 n] w fun e w' => e = .returned (.int .i64 (pickI c n)) ∧ w = w' := by
 by_cases hc : c < 0
 · obtain ⟨d, hd⟩ : ∃ d : Int, -(c + 1) = d := ⟨_, rfl⟩
   have e : pickI c n = d % n := by unfold pickI; rw [if_pos hc, hd]
   have q1 : IntKind.i64.wrap (c + 1) = c + 1 := IntWalk.i64_in _ (by omega)
   have q2 : IntKind.i64.wrap (-(c + 1)) = d := by rw [hd]; exact IntWalk.i64_in _ (by omega)
   have hd0 : 0 ≤ d := by omega
   have hp := Int.emod_nonneg d (show n ≠ 0 by omega)
   have hq := Int.emod_lt_of_pos d h0
   have q3 : IntKind.i64.wrap (d % n) = d % n := IntWalk.i64_in _ (by omega)
   have q4 : d.tmod n = d % n := Int.tmod_eq_emod_of_nonneg hd0
   have hn : n ≠ 0 := by omega
   have hnb : (n == 0) = false := by rw [beq_eq_false_iff_ne]; exact hn
   rw [e]
   clear e hd hp hq
   go_enter Tryz.func38, Tryz.ntmps38
   go_wp2
   go_ret
   exact ⟨rfl, rfl⟩
 have e : pickI c n = c % n := by unfold pickI; rw [if_neg hc]
 have hd0 : 0 ≤ c := by omega
 have hp := Int.emod_nonneg c (show n ≠ 0 by omega)
 have hq := Int.emod_lt_of_pos c h0
 have q3 : IntKind.i64.wrap (c % n) = c % n := IntWalk.i64_in _ (by omega)
 have q4 : c.tmod n = c % n := Int.tmod_eq_emod_of_nonneg hd0
 have hn : n ≠ 0 := by omega
 have hnb : (n == 0) = false := by rw [beq_eq_false_iff_ne]; exact hn
 rw [e]
 clear e hp hq
 go_enter Tryz.func38, Tryz.ntmps38
 go_wp2
 go_ret
 exact ⟨rfl, rfl⟩
theorem ratC_allocA {W W' : World} {v : Value} {vs : List Value} {a : Array Value} {t : TypeId} (ha : a = (v :: vs).toArray) (h : Below (W.alloc (.cells a t)).drew.heap.size (W.alloc (.cells a t)).drew W') : CellsAt W' W.heap.size (v :: vs) := by
 subst ha
 exact ((cellsAt_new rfl).drew).below h
theorem ratC_allocB {W W' : World} {v : Value} {vs : List Value} {a : Array Value} {t : TypeId} (ha : a = (v :: vs).toArray) (h : Below (W.alloc (.cells a t)).heap.size (W.alloc (.cells a t)) W') : CellsAt W' W.heap.size (v :: vs) := by
 subst ha
 exact (cellsAt_new rfl).below h
theorem ratC_allocC {W W' : World} {v : Value} {vs : List Value} {a : Array Value} {t : TypeId} (ha : a = (v :: vs).toArray) (h : Below (W.drew.alloc (.cells a t)).heap.size (W.drew.alloc (.cells a t)) W') : CellsAt W' W.heap.size (v :: vs) := by
 subst ha
 exact (cellsAt_new (W := W.drew) rfl).below h
theorem hcz_ltL {W : World} {B : Nat} {v : Value} {vs : List Value} (h : CellsAt W B (v :: vs)) : B < W.heap.size := World.block_lt_of_cell? W ⟨B, 0, none⟩ (h 0 (Nat.zero_lt_succ _)).1
def smallV (x0 x1 : Int) : Rat := Rat.divInt (pickI x0 41 - 20) (1 + pickI x1 9)
def largeV (x0 x1 : Int) : Rat := Rat.divInt (pickI x0 1152921504606846976) (1 + pickI x1 1099511627776)
theorem madeV_small {x0 x1 x2 : Int} (h : pickI x2 7 ≠ 6) : madeV x0 x1 x2 = smallV x0 x1 := by unfold madeV; rw [if_neg h]; rfl
theorem madeV_large {x0 x1 x2 : Int} (h : pickI x2 7 = 6) : madeV x0 x1 x2 = largeV x0 x1 := by unfold madeV; rw [if_pos h]; rfl
theorem made_any5 (x0 x1 x2 x3 : Int) (a0 : -9223372036854775808 ≤ x0) (c0 : x0 ≤ 9223372036854775807) (a1 : -9223372036854775808 ≤ x1) (c1 : x1 ≤ 9223372036854775807) (a2 : -9223372036854775808 ≤ x2) (c2 : x2 ≤ 9223372036854775807) (a3 : -9223372036854775808 ≤ x3) (c3 : x3 ≤ 9223372036854775807) (w : World) : Calls Tryz.prog 12 #[.agg #[.int .i64 x0, .int .i64 x1, .int .i64 x2, .int .i64 x3]] w fun e w' => e = .returned (.agg #[.string (madeQt x0 x1 x2 x3).n, .string (madeQt x0 x1 x2 x3).d, .int .i64 (madeQt x0 x1 x2 x3).t, .int .i64 (madeQt x0 x1 x2 x3).b, .int .i64 (madeQt x0 x1 x2 x3).m, .int .i64 (madeQt x0 x1 x2 x3).c]) ∧ Below w.heap.size w w' := by
 obtain ⟨W0, hW0, b0, s0, hcc⟩ := lay2 w (.int .i64 x0) [.int .i64 x1, .int .i64 x2, .int .i64 x3] 28 (.string ⟨#[]⟩) [.string ⟨#[]⟩, .int .i64 0, .int .i64 0, .int .i64 0, .int .i64 0] 27
 have HW := hid hW0; have HC := hid hcc; have B0 := hid b0
 clear hW0 hcc b0 s0
 have ca := fun W => pick5_any x0 41 a0 c0 (by decide) (by decide) W
 have cb := fun W => pick5_any x1 9 a1 c1 (by decide) (by decide) W
 have cA := fun W => pick5_any x0 1152921504606846976 a0 c0 (by decide) (by decide) W
 have cB := fun W => pick5_any x1 1099511627776 a1 c1 (by decide) (by decide) W
 have c7 := fun W => pick5_any x2 7 a2 c2 (by decide) (by decide) W
 have cm := fun W => pick5_any x3 625 a3 c3 (by decide) (by decide) W
 have r1 := pickI_range x0 (n := 41) (by decide)
 have r2 := pickI_range x1 (n := 9) (by decide)
 have r3 := pickI_range x0 (n := 1152921504606846976) (by decide)
 have r4 := pickI_range x1 (n := 1099511627776) (by decide)
 have r7 := pickI_range x2 (n := 7) (by decide)
 have rm := pickI_range x3 (n := 625) (by decide)
 have cf := fun W => ofR4_any (pickI x0 41 - 20) (1 + pickI x1 9) (by omega) (by omega) (by omega) (by omega) W
 rw [decide_eq_true (show 1 + pickI x1 9 ≠ 0 by omega)] at cf
 have cf2 : ∀ W, Calls Tryz.prog 37 #[.int .i64 (pickI x0 41 - 20), .int .i64 (1 + pickI x1 9)] W fun e w' => e = .returned (.tuple #[.agg #[.string (nT (smallV x0 x1)), .string (dT (smallV x0 x1))], .int .i64 0]) ∧ Below W.heap.size W w' := cf
 have cF := fun W => ofR4_any (pickI x0 1152921504606846976) (1 + pickI x1 1099511627776) (by omega) (by omega) (by omega) (by omega) W
 rw [decide_eq_true (show 1 + pickI x1 1099511627776 ≠ 0 by omega)] at cF
 have cF2 : ∀ W, Calls Tryz.prog 37 #[.int .i64 (pickI x0 1152921504606846976), .int .i64 (1 + pickI x1 1099511627776)] W fun e w' => e = .returned (.tuple #[.agg #[.string (nT (largeV x0 x1)), .string (dT (largeV x0 x1))], .int .i64 0]) ∧ Below W.heap.size W w' := cF
 clear cf cF
 have q1 : IntKind.i64.wrap (pickI x0 41 - 20) = pickI x0 41 - 20 := IntWalk.i64_in _ (by omega)
 have q2 : IntKind.i64.wrap (1 + pickI x1 9) = 1 + pickI x1 9 := IntWalk.i64_in _ (by omega)
 have q3 : IntKind.i64.wrap (1 + pickI x1 1099511627776) = 1 + pickI x1 1099511627776 := IntWalk.i64_in _ (by omega)
 have hres : (madeQt x0 x1 x2 x3).n = nT (madeV x0 x1 x2) ∧ (madeQt x0 x1 x2 x3).d = dT (madeV x0 x1 x2) := ⟨rfl, rfl⟩
 show Calls _ _ _ _ fun e w' => e = .returned (.agg #[.string (nT (madeV x0 x1 x2)), .string (dT (madeV x0 x1 x2)), .int .i64 (pickI x3 625 % 5 - 2), .int .i64 (pickI x3 625 / 5 % 5 - 2), .int .i64 (pickI x3 625 / 25 % 5 - 2), .int .i64 (pickI x3 625 / 125 - 2)]) ∧ _
 have hvs := madeV_small (x0 := x0) (x1 := x1) (x2 := x2)
 have hvl := madeV_large (x0 := x0) (x1 := x1) (x2 := x2)
 have h67 : (pickI x2 7 = 6) ∨ (pickI x2 7 ≠ 6) := by omega
 generalize madeV x0 x1 x2 = vR at *
 generalize smallV x0 x1 = vS at *
 generalize largeV x0 x1 = vL at *
 generalize hm : pickI x3 625 = m at *
 have mf : m.tmod 5 = m % 5 ∧ IntKind.i64.wrap (m % 5) = m % 5 ∧ IntKind.i64.wrap (m % 5 - 2) = m % 5 - 2 ∧ m.tdiv 5 = m / 5 ∧ IntKind.i64.wrap (m / 5) = m / 5 ∧ (m / 5).tmod 5 = m / 5 % 5 ∧ IntKind.i64.wrap (m / 5 % 5 - 2) = m / 5 % 5 - 2 ∧ m.tdiv 25 = m / 25 ∧ IntKind.i64.wrap (m / 25) = m / 25 ∧ (m / 25).tmod 5 = m / 25 % 5 ∧ IntKind.i64.wrap (m / 25 % 5 - 2) = m / 25 % 5 - 2 ∧ m.tdiv 125 = m / 125 ∧ IntKind.i64.wrap (m / 125) = m / 125 ∧ IntKind.i64.wrap (m / 125 - 2) = m / 125 - 2 := by
  have t1 : m.tmod 5 = m % 5 := Int.tmod_eq_emod_of_nonneg rm.1
  have t2 : m.tdiv 5 = m / 5 := Int.tdiv_eq_ediv_of_nonneg rm.1
  have t3 : (m / 5).tmod 5 = m / 5 % 5 := Int.tmod_eq_emod_of_nonneg (by omega)
  have t4 : m.tdiv 25 = m / 25 := Int.tdiv_eq_ediv_of_nonneg rm.1
  have t5 : (m / 25).tmod 5 = m / 25 % 5 := Int.tmod_eq_emod_of_nonneg (by omega)
  have t6 : m.tdiv 125 = m / 125 := Int.tdiv_eq_ediv_of_nonneg rm.1
  exact ⟨t1, IntWalk.i64_in _ (by omega), IntWalk.i64_in _ (by omega), t2, IntWalk.i64_in _ (by omega), t3, IntWalk.i64_in _ (by omega), t4, IntWalk.i64_in _ (by omega), t5, IntWalk.i64_in _ (by omega), t6, IntWalk.i64_in _ (by omega), IntWalk.i64_in _ (by omega)⟩
 generalize pickI x0 41 = p0 at *
 generalize pickI x1 9 = p1 at *
 generalize pickI x0 1152921504606846976 = p2 at *
 generalize pickI x1 1099511627776 = p3 at *
 generalize hs7 : pickI x2 7 = s7 at *
 have CA := hid ca; have CB := hid cb; have CAL := hid cA; have CBL := hid cB; have C7 := hid c7; have CM := hid cm; have CF := hid cf2; have CFL := hid cF2; have MF := hid mf; have HVS := hid hvs; have HVL := hid hvl; have H67 := hid h67
 clear ca cb cA cB c7 cm cf2 cF2 mf hvs hvl h67 r1 r2 r3 r4 r7 rm hm hs7 hres a0 a1 a2 a3 c0 c1 c2 c3
 have KX := hid (show ∀ W, Below W0.heap.size W0 W → (W.cell? ⟨w.heap.size, 0, none⟩ = some (.int .i64 x0) ∧ W.cell? ⟨w.heap.size, 1, none⟩ = some (.int .i64 x1)) from fun W b => by
  have h := (four_facts (HC.out W b).1).1
  exact ⟨h.1, h.2.1⟩)
 go_enter Tryz.func12, Tryz.ntmps12
 have g0 := Below.refl W0.heap.size W0
 go_upto_region 1 with (rw [HW.out])
 go_cut [3, 4] from 6 to 17 (fun sp se wx => se = .int .i64 0 ∧ ∃ R : Nat, sp = .pointer (some ⟨R, 0, none⟩) ∧ Hid (W0.heap.size ≤ R) ∧ Hid (CellsAt wx R [.string (nT vS), .string (dT vS)]) ∧ Hid (Below W0.heap.size W0 wx))
 case first =>
  go_region_held3 (fun W => W.cell? ⟨w.heap.size, 0, none⟩ = some (.int .i64 x0) ∧ W.cell? ⟨w.heap.size, 1, none⟩ = some (.int .i64 x1)) (first | with_reducible exact KX.out _ g0 | with_reducible exact KX.out _ g0.drew | with_reducible exact KX.out _ (g0.alloc (Nat.le_refl _) _) | with_reducible exact KX.out _ (g0.alloc (Nat.le_refl _) _).drew | with_reducible exact KX.out _ (g0.drew.alloc (Nat.le_refl _) _) | with_reducible exact KX.out _ g1 | with_reducible exact KX.out _ (g1.alloc g1.size _) | with_reducible exact KX.out _ (low2 (Nat.le_refl _) g1 _ _) | with_reducible exact KX.out _ (low2 g1.size g1 _ _)) (first | (go_at_call 38; (first | (with_reducible refine (CA.out _).mono ?_) | (with_reducible refine (CB.out _).mono ?_)); (rintro e y0 ⟨rfl, rfl⟩)) | (go_at_call 37; (with_reducible refine (CF.out _).mono ?_); (rintro e y1 ⟨rfl, k1⟩); (have g1 : Below W0.heap.size W0 y1 := below_up (by first | with_reducible exact g0 | with_reducible exact g0.drew | with_reducible exact g0.alloc (Nat.le_refl _) _ | with_reducible exact (g0.alloc (Nat.le_refl _) _).drew | with_reducible exact g0.drew.alloc (Nat.le_refl _) _) k1); (first | (have e1 : CellsAt y1 W0.heap.size [.string ⟨#[]⟩, .string ⟨#[]⟩] := (by with_reducible exact ratC_allocA rfl k1)) | (have e1 : CellsAt y1 W0.heap.size [.string ⟨#[]⟩, .string ⟨#[]⟩] := (by with_reducible exact ratC_allocB rfl k1)) | (have e1 : CellsAt y1 W0.heap.size [.string ⟨#[]⟩, .string ⟨#[]⟩] := (by with_reducible exact ratC_allocC rfl k1)) | skip); (first | ((have e9 := two_facts e1); (obtain ⟨⟨r0, r1⟩, ⟨r2, r3⟩⟩ := e9)) | skip)))
  all_goals (go_wp2_with fail; go_meet; exact ⟨rfl, _, rfl, hid (by first | with_reducible exact Nat.le_refl _ | exact g1.size | exact Nat.le_refl _), hid (by first | with_reducible exact put2 e1 _ _ | with_reducible exact cellsAt_new rfl | exact cellsAt_new rfl), hid (by first | with_reducible exact low2 (Nat.le_refl _) g1 _ _ | with_reducible exact g1.alloc g1.size _ | exact g1.alloc g1.size _)⟩)
 clear g0
 obtain ⟨rfl, R, rfl, hr, ha, hb⟩ := hcut
 generalize wc = z1 at *
 have HA := ha; have HB := hb; have HRR := hr
 clear ha hb hr
 obtain ⟨⟨u0, u1, u2, u3⟩, _⟩ := four_facts (HC.out z1 HB.out).1
 go_wp2_with fail
 refine (C7.out _).mono ?_
 rintro e zq ⟨rfl, rfl⟩
 clear u0 u1 u2 u3
 rcases H67.out with h6 | h6
 · have HV := HVL.out h6
   subst h6
   subst HV
   have KX' := KX
   clear KX
   have KX := hid (show ∀ W, Below z1.heap.size z1 W → (W.cell? ⟨w.heap.size, 0, none⟩ = some (.int .i64 x0) ∧ W.cell? ⟨w.heap.size, 1, none⟩ = some (.int .i64 x1)) from fun W b => KX'.out W (below_up HB.out b))
   have KXS := hid (show ∀ W x y, Below z1.heap.size z1 W → (((W.setCell ⟨R, 0, none⟩ x).setCell ⟨R, 1, none⟩ y).cell? ⟨w.heap.size, 0, none⟩ = some (.int .i64 x0) ∧ ((W.setCell ⟨R, 0, none⟩ x).setCell ⟨R, 1, none⟩ y).cell? ⟨w.heap.size, 1, none⟩ = some (.int .i64 x1)) from fun W x y b => by
    have hr := HRR.out
    have hx := hcz_ltL (HC.out W0 (Below.refl _ _)).1
    have h := (four_facts (far2 (HC.out W (below_up HB.out b)).1 (show R ≠ w.heap.size by omega) x y)).1
    exact ⟨h.1, h.2.1⟩)
   have g0 := Below.refl z1.heap.size z1
   go_upto_region 3 with fail
   go_cut [4] from 22 to 32 (fun se wx => se = .int .i64 0 ∧ Hid (CellsAt wx R [.string (nT vR), .string (dT vR)]) ∧ Hid (Below W0.heap.size W0 wx))
   case first =>
    go_region_held3 (fun W => W.cell? ⟨w.heap.size, 0, none⟩ = some (.int .i64 x0) ∧ W.cell? ⟨w.heap.size, 1, none⟩ = some (.int .i64 x1)) (first | with_reducible exact KX.out _ g0 | with_reducible exact KX.out _ g0.drew | with_reducible exact KX.out _ (g0.alloc (Nat.le_refl _) _) | with_reducible exact KX.out _ (g0.alloc (Nat.le_refl _) _).drew | with_reducible exact KX.out _ (g0.drew.alloc (Nat.le_refl _) _) | with_reducible exact KX.out _ g1 | with_reducible exact KX.out _ (g1.alloc g1.size _) | with_reducible exact KXS.out _ _ _ g1) (first | (go_at_call 38; (first | (with_reducible refine (CAL.out _).mono ?_) | (with_reducible refine (CBL.out _).mono ?_)); (rintro e y0 ⟨rfl, rfl⟩)) | (go_at_call 37; (with_reducible refine (CFL.out _).mono ?_); (rintro e y1 ⟨rfl, k1⟩); (have g1 : Below z1.heap.size z1 y1 := below_up (by first | with_reducible exact g0 | with_reducible exact g0.drew | with_reducible exact g0.alloc (Nat.le_refl _) _ | with_reducible exact (g0.alloc (Nat.le_refl _) _).drew | with_reducible exact g0.drew.alloc (Nat.le_refl _) _) k1); (have e1 := HA.out.below g1); (obtain ⟨⟨r0, r1⟩, ⟨r2, r3⟩⟩ := two_facts e1)))
    all_goals (go_wp2_with fail; go_meet; exact ⟨rfl, hid (by first | with_reducible exact put2 e1 _ _ | exact put2 e1 _ _), hid (by first | with_reducible exact low2 HRR.out (below_up HB.out g1) _ _ | exact low2 HRR.out (below_up HB.out g1) _ _)⟩)
   clear g0
   obtain ⟨rfl, ha, hb⟩ := hcut
   generalize wc = z2 at *
   clear HA HB
   have HA := ha; have HB := hb
   clear ha hb
   obtain ⟨⟨u0, u1, u2, u3⟩, _⟩ := four_facts (HC.out z2 HB.out).1
   go_wp2_with fail
   refine (CM.out _).mono ?_
   rintro e zq ⟨rfl, rfl⟩
   obtain ⟨⟨n0, n1⟩, _⟩ := two_facts HA.out
   obtain ⟨y, hy⟩ : ∃ y, ((((((z2.setCell ⟨w.heap.size + 1, 0, none⟩ (.string (nT vR))).setCell ⟨w.heap.size + 1, 1, none⟩ (.string (dT vR))).setCell ⟨w.heap.size + 1, 2, none⟩ (.int .i64 (m % 5 - 2))).setCell ⟨w.heap.size + 1, 3, none⟩ (.int .i64 (m / 5 % 5 - 2))).setCell ⟨w.heap.size + 1, 4, none⟩ (.int .i64 (m / 25 % 5 - 2))).setCell ⟨w.heap.size + 1, 5, none⟩ (.int .i64 (m / 125 - 2))) = y := ⟨_, rfl⟩
   have KY := hid (show CellsAt y (w.heap.size + 1) [.string (nT vR), .string (dT vR), .int .i64 (m % 5 - 2), .int .i64 (m / 5 % 5 - 2), .int .i64 (m / 25 % 5 - 2), .int .i64 (m / 125 - 2)] by rw [← hy]; exact put6 (HC.out z2 HB.out).2 _ _ _ _ _ _)
   have BY := hid (show Below w.heap.size w y by rw [← hy]; exact low6 (show w.heap.size ≤ w.heap.size + 1 by omega) (below_up B0.out HB.out) _ _ _ _ _ _)
   have HY := hid hy
   obtain ⟨⟨r0, r1, r2, r3, r4, r5⟩, ⟨r6, r7, r8, r9, ra, rb⟩⟩ := six_facts (HC.out z2 HB.out).2
   obtain ⟨m1, m2, m3, m4, m5, m6, m7, m8, m9, ma, mb, mc, md, me⟩ := MF.out
   clear hy
   go_wp2_with (rw [HY.out])
   obtain ⟨⟨t0, t1, t2, t3, t4, t5⟩, _⟩ := six_facts KY.out
   exact bodyPost_ret (v := .agg #[.string (nT vR), .string (dT vR), .int .i64 (m % 5 - 2), .int .i64 (m / 5 % 5 - 2), .int .i64 (m / 25 % 5 - 2), .int .i64 (m / 125 - 2)]) (by simp [results, Tryz.results12, go_sem, t0, t1, t2, t3, t4, t5]) rfl ⟨rfl, BY.out⟩
 have HV := HVS.out h6
 have hbe : (s7 == 6) = false := by rw [beq_eq_false_iff_ne]; exact h6
 subst HV
 clear h6
 obtain ⟨⟨u0, u1, u2, u3⟩, _⟩ := four_facts (HC.out z1 HB.out).1
 go_wp2_with fail
 refine (CM.out _).mono ?_
 rintro e zq ⟨rfl, rfl⟩
 obtain ⟨⟨n0, n1⟩, _⟩ := two_facts HA.out
 obtain ⟨y, hy⟩ : ∃ y, ((((((z1.setCell ⟨w.heap.size + 1, 0, none⟩ (.string (nT vR))).setCell ⟨w.heap.size + 1, 1, none⟩ (.string (dT vR))).setCell ⟨w.heap.size + 1, 2, none⟩ (.int .i64 (m % 5 - 2))).setCell ⟨w.heap.size + 1, 3, none⟩ (.int .i64 (m / 5 % 5 - 2))).setCell ⟨w.heap.size + 1, 4, none⟩ (.int .i64 (m / 25 % 5 - 2))).setCell ⟨w.heap.size + 1, 5, none⟩ (.int .i64 (m / 125 - 2))) = y := ⟨_, rfl⟩
 have KY := hid (show CellsAt y (w.heap.size + 1) [.string (nT vR), .string (dT vR), .int .i64 (m % 5 - 2), .int .i64 (m / 5 % 5 - 2), .int .i64 (m / 25 % 5 - 2), .int .i64 (m / 125 - 2)] by rw [← hy]; exact put6 (HC.out z1 HB.out).2 _ _ _ _ _ _)
 have BY := hid (show Below w.heap.size w y by rw [← hy]; exact low6 (show w.heap.size ≤ w.heap.size + 1 by omega) (below_up B0.out HB.out) _ _ _ _ _ _)
 have HY := hid hy
 obtain ⟨⟨r0, r1, r2, r3, r4, r5⟩, ⟨r6, r7, r8, r9, ra, rb⟩⟩ := six_facts (HC.out z1 HB.out).2
 obtain ⟨m1, m2, m3, m4, m5, m6, m7, m8, m9, ma, mb, mc, md, me⟩ := MF.out
 clear hy
 go_wp2_with (rw [HY.out])
 obtain ⟨⟨t0, t1, t2, t3, t4, t5⟩, _⟩ := six_facts KY.out
 exact bodyPost_ret (v := .agg #[.string (nT vR), .string (dT vR), .int .i64 (m % 5 - 2), .int .i64 (m / 5 % 5 - 2), .int .i64 (m / 25 % 5 - 2), .int .i64 (m / 125 - 2)]) (by simp [results, Tryz.results12, go_sem, t0, t1, t2, t3, t4, t5]) rfl ⟨rfl, BY.out⟩
end Go.Proofs.YtcglcgphgahnpaaGreatDoor
