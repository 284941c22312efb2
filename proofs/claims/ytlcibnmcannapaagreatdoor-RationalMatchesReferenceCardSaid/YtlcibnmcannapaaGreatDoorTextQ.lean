/-
  The contracts of the program's Print and Parse.
-/
import Derived.Test.YtlcibnmcannapaaGreatDoorApiQ
import Derived.Test.YtlcibnmcannapaaGreatDoorRefQ
import Derived.Test.YtlcibnmcannapaaGreatDoorStrs
namespace Go.Proofs.YtlcibnmcannapaaGreatDoor
open Go Go.Proofs Go.RowKit Go.Lib

theorem index_slash (s : ByteArray) : Lib.indexByte s.data.toList 47 = if slashAt s < s.size then (slashAt s : Int) else -1 := by
  have key : ∀ l : List UInt8, Lib.indexByte l 47 = if (l.map UInt8.toNat).findIdx (· == 47) < l.length then ((l.map UInt8.toNat).findIdx (· == 47) : Int) else -1 := by
    intro l
    induction l with
    | nil => rfl
    | cons b l ih =>
      rw [Lib.indexByte, List.map_cons, List.findIdx_cons]
      have hb : (b.toNat == 47) = (b == 47) := by
        rw [Bool.eq_iff_iff, beq_iff_eq, beq_iff_eq]
        exact ⟨fun e => UInt8.toNat_inj.1 e, fun e => by rw [e]; rfl⟩
      rw [hb]
      cases b == 47 with
      | true => simp
      | false =>
        simp only [cond_false, Bool.false_eq_true, if_false]
        generalize (l.map UInt8.toNat).findIdx (· == 47) = F at *
        by_cases h : F < l.length
        · rw [if_pos h] at ih
          have n1 : ((F : Int) == -1) = false := by rw [beq_eq_false_iff_ne]; omega
          rw [ih, n1, if_neg (by decide), if_pos (by rw [List.length_cons]; omega)]
          omega
        · rw [if_neg h] at ih
          rw [ih, if_pos (by decide), if_neg (by rw [List.length_cons]; omega)]
  have := key s.data.toList
  rw [this]
  unfold slashAt bytesL
  rw [show s.data.toList.length = s.size by simp]
theorem slice_to (s : ByteArray) (k : Nat) (h : k ≤ s.size) (w : World) : (Instr.slice 9 (.string s) none (some (.int .i64 (k : Int))) none).run Tryz.prog w = .ok (.string (s.extract 0 k)) w := by
  have := run_slice_string_h (P := Tryz.prog) w 9 s Tryz.underlying9 .i64 (k : Int) (by omega) (by omega)
  simpa using this
theorem slice_behind (s : ByteArray) (k : Nat) (h : k + 1 ≤ s.size) (w : World) : (Instr.slice 9 (.string s) (some (.int .i64 ((k : Int) + 1))) none none).run Tryz.prog w = .ok (.string (s.extract (k + 1) s.size)) w :=
  slice_from Tryz.prog 9 Tryz.underlying9 s (k + 1) h _ rfl w
/-- What strings.Cut returns at a slash. -/
def cutA (s : ByteArray) : ByteArray := if slashAt s < s.size then s.extract 0 (slashAt s) else s
def cutB (s : ByteArray) : ByteArray := if slashAt s < s.size then s.extract (slashAt s + 1) s.size else ByteArray.empty
def cutF (s : ByteArray) : Bool := decide (slashAt s < s.size)
set_option maxHeartbeats 2000000 in
theorem litcut_any (s : ByteArray) (hs : s.size ≤ 1099511627776) (w : World) :
    Calls Tryz.prog 93 #[.string s, .string ⟨#[47]⟩] w fun e w' => e = .returned (.tuple #[.string (cutA s), .string (cutB s), .bool (cutF s)]) ∧ ∃ n, w' = w.drewN n := by
  have ci := fun W => stringslite_Index_one s 47 W
  rw [index_slash] at ci
  unfold cutA cutB cutF
  by_cases h : slashAt s < s.size
  · rw [if_pos h] at ci
    rw [if_pos h, if_pos h, decide_eq_true h]
    generalize slashAt s = k at *
    have h0 : (0 : Int) ≤ (k : Int) := by omega
    have s1 := fun W => slice_to s k (by omega) W
    have s2 := fun W => slice_behind s k (by omega) W
    have hw : IntKind.i64.wrap ((k : Int) + 1) = (k : Int) + 1 := IntWalk.i64_in _ (by omega)
    generalize s.extract 0 k = A at *
    generalize s.extract (k + 1) s.size = B at *
    have CI := Lib.hid ci
    clear ci h hs
    go_enter Tryz.func93, Tryz.ntmps93
    go_wp2_with fail
    refine (CI.out _).mono ?_
    rintro e w1 ⟨rfl, rfl⟩
    go_wp2_with fail
    go_quiet (fail)
    go_wp2
    go_ret3
    exact ⟨rfl, _, rfl⟩
  · rw [if_neg h] at ci
    rw [if_neg h, if_neg h, decide_eq_false h]
    have CI := Lib.hid ci
    clear ci h hs
    go_enter Tryz.func93, Tryz.ntmps93
    go_wp2_with fail
    refine (CI.out _).mono ?_
    rintro e w1 ⟨rfl, rfl⟩
    go_wp2
    go_ret3
    exact ⟨rfl, 0, rfl⟩
theorem slashcut_any (s : ByteArray) (hs : s.size ≤ 1099511627776) (w : World) :
    Calls Tryz.prog 65 #[.string s, .string ⟨#[47]⟩] w fun e w' => e = .returned (.tuple #[.string (cutA s), .string (cutB s), .bool (cutF s)]) ∧ Below w.heap.size w w' := by
  have cl := fun W => litcut_any s hs W
  generalize cutA s = A at *
  generalize cutB s = B at *
  generalize cutF s = F at *
  have CL := Lib.hid cl
  clear cl hs
  go_enter Tryz.func65, Tryz.ntmps65
  go_wp2_with fail
  refine (CL.out _).mono ?_
  rintro e w1 ⟨rfl, n, rfl⟩
  go_wp2
  go_ret3
  exact ⟨rfl, below_drewN (Below.refl _ _) n⟩
theorem clone_any (s : ByteArray) (hs : s.size ≤ 1099511627776) (w : World) :
    Calls Tryz.prog 64 #[.string s] w fun e w' => e = .returned (.string s) ∧ Below w.heap.size w w' := by
  have cl := fun W => stringslite_Clone s W (by omega)
  have CL := Lib.hid cl
  clear cl hs
  go_enter Tryz.func64, Tryz.ntmps64
  go_wp2_with fail
  refine (CL.out _).mono ?_
  rintro e w1 ⟨rfl, b1⟩
  go_wp2
  go_ret
  exact ⟨rfl, b1⟩

set_option maxRecDepth 100000 in
set_option maxHeartbeats 8000000 in
theorem print_q (n d : ByteArray) (hn : n.size ≤ 1099511627776) (hd : d.size ≤ 1099511627776) (w : World) (hR : Ready w) :
    Calls Tryz.prog 33 #[.agg #[.string n, .string d]] w fun e w' => e = .returned (.string (printB n d)) ∧ Below w.heap.size w w' := by
  obtain ⟨W0, hW0, b0, hcc⟩ := box_one w n d
  have HW := Lib.hid hW0; have HC := Lib.hid hcc; have B0 := Lib.hid b0
  have HR := Lib.hid (hR.below b0)
  have P0 := Lib.hid (Below.refl W0.heap.size W0)
  clear hW0 hcc b0
  clear hR
  have va := fun W (h : Ready W) => valid_q n d hn hd W h
  have cl := fun W => clone_any n hn W
  unfold printB
  have h1 : (d.toList == (⟨#[49]⟩ : ByteArray).toList) = decide (d = ⟨#[49]⟩) := by rw [str_eq_iff]
  rw [list49] at h1
  cases hv : validQ n d with
  | false =>
    rw [hv] at va
    rw [if_neg (by decide)]
    have VA := Lib.hid va
    clear va hv h1 cl
    go_enter Tryz.func33, Tryz.ntmps33
    obtain ⟨ca0, cb0, cc0, cd0⟩ := HC.out _ (Below.refl _ _)
    go_wp2_with (rw [HW.out])
    refine (VA.out _ (HR.out.below P0.out)).mono ?_
    rintro e w1 ⟨rfl, b1⟩
    have P1 := Lib.hid (below_up P0.out b1)
    obtain ⟨ca1, cb1, cc1, cd1⟩ := HC.out _ P1.out
    clear b1 P0 ca0 cb0 cc0 cd0 
    go_wp2
    go_ret
    exact ⟨rfl, below_up B0.out P1.out⟩
  | true =>
    rw [hv] at va
    rw [if_pos rfl]
    obtain ⟨v1, v2, _, _⟩ := validQ_parts hv
    have l1 := len_le v1
    have l2 := len_le v2
    have VA := Lib.hid va; have CL := Lib.hid cl
    clear va cl hv v1 v2 hn hd
    by_cases hd1 : d = ⟨#[49]⟩
    · rw [decide_eq_true hd1] at h1
      rw [if_pos hd1]
      clear hd1
      go_enter Tryz.func33, Tryz.ntmps33
      obtain ⟨ca0, cb0, cc0, cd0⟩ := HC.out _ (Below.refl _ _)
      go_wp2_with (rw [HW.out])
      refine (VA.out _ (HR.out.below P0.out)).mono ?_
      rintro e w1 ⟨rfl, b1⟩
      have P1 := Lib.hid (below_up P0.out b1)
      obtain ⟨ca1, cb1, cc1, cd1⟩ := HC.out _ P1.out
      clear b1 P0 ca0 cb0 cc0 cd0 
      go_wp2_with fail
      refine (CL.out _).mono ?_
      rintro e w2 ⟨rfl, b2⟩
      have P2 := Lib.hid (below_up P1.out b2)
      obtain ⟨ca2, cb2, cc2, cd2⟩ := HC.out _ P2.out
      clear b2 P1 ca1 cb1 cc1 cd1 
      go_wp2
      go_ret
      exact ⟨rfl, below_up B0.out P2.out⟩
    · rw [decide_eq_false hd1] at h1
      rw [if_neg hd1]
      clear hd1
      go_enter Tryz.func33, Tryz.ntmps33
      obtain ⟨ca0, cb0, cc0, cd0⟩ := HC.out _ (Below.refl _ _)
      go_wp2_with (rw [HW.out])
      refine (VA.out _ (HR.out.below P0.out)).mono ?_
      rintro e w1 ⟨rfl, b1⟩
      have P1 := Lib.hid (below_up P0.out b1)
      obtain ⟨ca1, cb1, cc1, cd1⟩ := HC.out _ P1.out
      clear b1 P0 ca0 cb0 cc0 cd0 
      go_wp2
      go_ret
      exact ⟨rfl, below_up B0.out P1.out⟩
/-- What Parse returns. -/
def parN (s : ByteArray) : ByteArray := if parseB s then cutN s else ByteArray.empty
def parD (s : ByteArray) : ByteArray := if parseB s then cutD s else ByteArray.empty
def parE (s : ByteArray) : Int := if parseB s then 0 else 40
theorem slash_split {s : ByteArray} (h : slashAt s < s.size) : s.extract 0 (slashAt s) ++ ⟨#[47]⟩ ++ s.extract (slashAt s + 1) s.size = s := by
  apply bytesL_inj
  rw [bytesL_append, bytesL_append]
  have hx : (bytesL s)[slashAt s]'(by rw [bytesL_length]; exact h) = 47 := by
    have := List.findIdx_getElem (xs := bytesL s) (p := (· == 47)) (w := by rw [bytesL_length]; exact h)
    simp at this
    exact this
  have e1 : bytesL (s.extract 0 (slashAt s)) = (bytesL s).take (slashAt s) := by
    unfold bytesL
    rw [ByteArray.data_extract, Array.toList_extract, List.extract_eq_take_drop]
    simp
  have e2 : bytesL (s.extract (slashAt s + 1) s.size) = (bytesL s).drop (slashAt s + 1) := by
    unfold bytesL
    rw [ByteArray.data_extract, Array.toList_extract, List.extract_eq_take_drop, ← List.map_drop, List.take_of_length_le (by simp)]
  rw [e1, e2, show bytesL (⟨#[47]⟩ : ByteArray) = [47] from rfl, List.append_assoc]
  have : [47] ++ (bytesL s).drop (slashAt s + 1) = (bytesL s).drop (slashAt s) := by
    have e : (bytesL s).drop (slashAt s) = (bytesL s)[slashAt s]'(by rw [bytesL_length]; exact h) :: (bytesL s).drop (slashAt s + 1) := List.drop_eq_getElem_cons (by rw [bytesL_length]; exact h)
    rw [e, hx]; rfl
  rw [this, List.take_append_drop]
theorem parse_none {s : ByteArray} (h : ¬ slashAt s < s.size) : parseB s = validQ s ⟨#[49]⟩ ∧ cutN s = s ∧ cutD s = ⟨#[49]⟩ := by
  have e1 : cutN s = s := by unfold cutN; rw [if_neg h]
  have e2 : cutD s = ⟨#[49]⟩ := by unfold cutD; rw [if_neg h]
  refine ⟨?_, e1, e2⟩
  unfold parseB
  rw [e1, e2]
  cases hv : validQ s ⟨#[49]⟩ with
  | false => rfl
  | true =>
    have : printB s ⟨#[49]⟩ = s := by unfold printB; rw [if_pos hv, if_pos rfl]
    rw [this]; simp
theorem parse_one {s : ByteArray} (h : slashAt s < s.size) (h1 : cutB s = ⟨#[49]⟩) : parseB s = false := by
  have e2 : cutD s = ⟨#[49]⟩ := by rw [← h1]; unfold cutD cutB; rw [if_pos h, if_pos h]
  unfold parseB
  rw [e2]
  have hne : printB (cutN s) ⟨#[49]⟩ ≠ s := by
    unfold printB
    split
    · rw [if_pos rfl]
      intro e
      have := congrArg ByteArray.size e
      unfold cutN at this
      rw [if_pos h, ByteArray.size_extract] at this
      omega
    · intro e
      have := congrArg ByteArray.size e
      rw [show (ByteArray.empty).size = 0 from rfl] at this
      omega
  rw [decide_eq_false hne, Bool.and_false]
theorem parse_some {s : ByteArray} (h : slashAt s < s.size) (h1 : cutB s ≠ ⟨#[49]⟩) : parseB s = validQ (cutA s) (cutB s) ∧ cutN s = cutA s ∧ cutD s = cutB s := by
  have e1 : cutN s = cutA s := rfl
  have e2 : cutD s = cutB s := by unfold cutD cutB; rw [if_pos h, if_pos h]
  refine ⟨?_, e1, e2⟩
  unfold parseB
  rw [e1, e2]
  cases hv : validQ (cutA s) (cutB s) with
  | false => rfl
  | true =>
    have : printB (cutA s) (cutB s) = s := by
      unfold printB
      rw [if_pos hv, if_neg h1]
      unfold cutA cutB
      rw [if_pos h, if_pos h]
      exact slash_split h
    rw [this]; simp
theorem cutA_size (s : ByteArray) : (cutA s).size ≤ s.size := by unfold cutA; split <;> (try rw [ByteArray.size_extract]) <;> omega
theorem cutB_size (s : ByteArray) : (cutB s).size ≤ s.size := by
  unfold cutB; split
  · rw [ByteArray.size_extract]; omega
  · exact Nat.zero_le _
set_option maxRecDepth 100000 in
set_option maxHeartbeats 8000000 in
theorem parse_q (s : ByteArray) (hs : s.size ≤ 1000000) (w : World) (hR : Ready w) :
    Calls Tryz.prog 34 #[.string s] w fun e w' => e = .returned (.tuple #[.agg #[.string (parN s), .string (parD s)], .int .i64 (parE s)]) ∧ Below w.heap.size w w' := by
  obtain ⟨W0, hW0, b0, hcc⟩ := box_one w ⟨#[]⟩ ⟨#[]⟩
  have HW := Lib.hid hW0; have HC := Lib.hid hcc; have B0 := Lib.hid b0
  have HR := Lib.hid (hR.below b0)
  have P0 := Lib.hid (Below.refl W0.heap.size W0)
  clear hW0 hcc b0
  clear hR
  have cc := fun W => slashcut_any s (by omega) W
  have hA := cutA_size s
  have hB := cutB_size s
  by_cases h : slashAt s < s.size
  · have hf : cutF s = true := decide_eq_true h
    rw [hf] at cc
    have h1 : ((cutB s).toList == (⟨#[49]⟩ : ByteArray).toList) = decide (cutB s = ⟨#[49]⟩) := by rw [str_eq_iff]
    rw [list49] at h1
    by_cases hb : cutB s = ⟨#[49]⟩
    · rw [decide_eq_true hb] at h1
      unfold parN parD parE
      rw [parse_one h hb]
      show Calls _ _ _ _ fun e w' => e = .returned (.tuple #[.agg #[.string ⟨#[]⟩, .string ⟨#[]⟩], .int .i64 40]) ∧ _
      clear hb
      generalize cutA s = X at *
      generalize cutB s = Y at *
      have CC := Lib.hid cc
      clear cc h hf hA hB hs
      go_enter Tryz.func34, Tryz.ntmps34
      obtain ⟨ca0, cb0, cc0, cd0⟩ := HC.out _ (Below.refl _ _)
      go_wp2_with (rw [HW.out])
      refine (CC.out _).mono ?_
      rintro e w1 ⟨rfl, b1⟩
      have P1 := Lib.hid (below_up P0.out b1)
      obtain ⟨ca1, cb1, cc1, cd1⟩ := HC.out _ P1.out
      clear b1 P0 ca0 cb0 cc0 cd0 
      go_wp2_with fail
      exact bodyPost_ret (v := .tuple #[.agg #[.string ⟨#[]⟩, .string ⟨#[]⟩], .int .i64 40]) (by simp [results, Tryz.results34, go_sem, ca1, cb1]) rfl ⟨rfl, rat_done B0.out (Nat.le_refl _) P1.out _ _⟩
    · rw [decide_eq_false hb] at h1
      obtain ⟨e1, e2, e3⟩ := parse_some h hb
      unfold parN parD parE
      rw [e1, e2, e3]
      generalize cutA s = X at *
      generalize cutB s = Y at *
      have va := fun W (h : Ready W) => valid_q X Y (by omega) (by omega) W h
      have cx := fun W => clone_any X (by omega) W
      have cy := fun W => clone_any Y (by omega) W
      clear e1 e2 e3 hb h hf
      cases hv : validQ X Y with
      | false =>
        rw [hv] at va
        show Calls _ _ _ _ fun e w' => e = .returned (.tuple #[.agg #[.string ⟨#[]⟩, .string ⟨#[]⟩], .int .i64 40]) ∧ _
        have CC := Lib.hid cc; have VA := Lib.hid va
        clear cc va cx cy hA hB hs hv
        go_enter Tryz.func34, Tryz.ntmps34
        obtain ⟨ca0, cb0, cc0, cd0⟩ := HC.out _ (Below.refl _ _)
        go_wp2_with (rw [HW.out])
        refine (CC.out _).mono ?_
        rintro e w1 ⟨rfl, b1⟩
        have P1 := Lib.hid (below_up P0.out b1)
        obtain ⟨ca1, cb1, cc1, cd1⟩ := HC.out _ P1.out
        clear b1 P0 ca0 cb0 cc0 cd0 
        go_wp2_with fail
        refine (VA.out _ (HR.out.below P1.out)).mono ?_
        rintro e w2 ⟨rfl, b2⟩
        have P2 := Lib.hid (below_up P1.out b2)
        obtain ⟨ca2, cb2, cc2, cd2⟩ := HC.out _ P2.out
        clear b2 P1 ca1 cb1 cc1 cd1 
        go_wp2_with fail
        exact bodyPost_ret (v := .tuple #[.agg #[.string ⟨#[]⟩, .string ⟨#[]⟩], .int .i64 40]) (by simp [results, Tryz.results34, go_sem, ca2, cb2]) rfl ⟨rfl, rat_done B0.out (Nat.le_refl _) P2.out _ _⟩
      | true =>
        rw [hv] at va
        show Calls _ _ _ _ fun e w' => e = .returned (.tuple #[.agg #[.string X, .string Y], .int .i64 0]) ∧ _
        have CC := Lib.hid cc; have VA := Lib.hid va; have CX := Lib.hid cx; have CY := Lib.hid cy
        clear cc va cx cy hA hB hs hv
        go_enter Tryz.func34, Tryz.ntmps34
        obtain ⟨ca0, cb0, cc0, cd0⟩ := HC.out _ (Below.refl _ _)
        go_wp2_with (rw [HW.out])
        refine (CC.out _).mono ?_
        rintro e w1 ⟨rfl, b1⟩
        have P1 := Lib.hid (below_up P0.out b1)
        obtain ⟨ca1, cb1, cc1, cd1⟩ := HC.out _ P1.out
        clear b1 P0 ca0 cb0 cc0 cd0 
        go_wp2_with fail
        refine (VA.out _ (HR.out.below P1.out)).mono ?_
        rintro e w2 ⟨rfl, b2⟩
        have P2 := Lib.hid (below_up P1.out b2)
        obtain ⟨ca2, cb2, cc2, cd2⟩ := HC.out _ P2.out
        clear b2 P1 ca1 cb1 cc1 cd1 
        go_wp2_with fail
        refine (CX.out _).mono ?_
        rintro e w3 ⟨rfl, b3⟩
        have P3 := Lib.hid (below_up P2.out b3)
        obtain ⟨ca3, cb3, cc3, cd3⟩ := HC.out _ P3.out
        clear b3 P2 ca2 cb2 cc2 cd2 
        go_wp2_with fail
        refine (CY.out _).mono ?_
        rintro e w4 ⟨rfl, b4⟩
        have P4 := Lib.hid (below_up P3.out b4)
        obtain ⟨ca4, cb4, cc4, cd4⟩ := HC.out _ P4.out
        clear b4 P3 ca3 cb3 cc3 cd3 
        go_wp2_with fail
        exact bodyPost_ret (v := .tuple #[.agg #[.string X, .string Y], .int .i64 0]) (by simp [results, Tryz.results34, go_sem, ca4, cb4]) rfl ⟨rfl, rat_done B0.out (Nat.le_refl _) P4.out _ _⟩
  · have hf : cutF s = false := decide_eq_false h
    rw [hf] at cc
    have hX : cutA s = s := by unfold cutA; rw [if_neg h]
    have hY : cutB s = ByteArray.empty := by unfold cutB; rw [if_neg h]
    obtain ⟨e1, e2, e3⟩ := parse_none h
    unfold parN parD parE
    rw [e1, e2, e3]
    rw [hX, hY] at cc
    have va := fun W (h : Ready W) => valid_q s ⟨#[49]⟩ (by omega) (by decide) W h
    have cx := fun W => clone_any s (by omega) W
    have cy := fun W => clone_any ⟨#[49]⟩ (by decide) W
    clear e1 e2 e3 h hf hX hY
    cases hv : validQ s ⟨#[49]⟩ with
    | false =>
      rw [hv] at va
      show Calls _ _ _ _ fun e w' => e = .returned (.tuple #[.agg #[.string ⟨#[]⟩, .string ⟨#[]⟩], .int .i64 40]) ∧ _
      have CC := Lib.hid cc; have VA := Lib.hid va
      clear cc va cx cy hA hB hs hv
      go_enter Tryz.func34, Tryz.ntmps34
      obtain ⟨ca0, cb0, cc0, cd0⟩ := HC.out _ (Below.refl _ _)
      go_wp2_with (rw [HW.out])
      refine (CC.out _).mono ?_
      rintro e w1 ⟨rfl, b1⟩
      have P1 := Lib.hid (below_up P0.out b1)
      obtain ⟨ca1, cb1, cc1, cd1⟩ := HC.out _ P1.out
      clear b1 P0 ca0 cb0 cc0 cd0 
      go_wp2_with fail
      refine (VA.out _ (HR.out.below P1.out)).mono ?_
      rintro e w2 ⟨rfl, b2⟩
      have P2 := Lib.hid (below_up P1.out b2)
      obtain ⟨ca2, cb2, cc2, cd2⟩ := HC.out _ P2.out
      clear b2 P1 ca1 cb1 cc1 cd1 
      go_wp2_with fail
      exact bodyPost_ret (v := .tuple #[.agg #[.string ⟨#[]⟩, .string ⟨#[]⟩], .int .i64 40]) (by simp [results, Tryz.results34, go_sem, ca2, cb2]) rfl ⟨rfl, rat_done B0.out (Nat.le_refl _) P2.out _ _⟩
    | true =>
      rw [hv] at va
      show Calls _ _ _ _ fun e w' => e = .returned (.tuple #[.agg #[.string s, .string ⟨#[49]⟩], .int .i64 0]) ∧ _
      have CC := Lib.hid cc; have VA := Lib.hid va; have CX := Lib.hid cx; have CY := Lib.hid cy
      clear cc va cx cy hA hB hs hv
      go_enter Tryz.func34, Tryz.ntmps34
      obtain ⟨ca0, cb0, cc0, cd0⟩ := HC.out _ (Below.refl _ _)
      go_wp2_with (rw [HW.out])
      refine (CC.out _).mono ?_
      rintro e w1 ⟨rfl, b1⟩
      have P1 := Lib.hid (below_up P0.out b1)
      obtain ⟨ca1, cb1, cc1, cd1⟩ := HC.out _ P1.out
      clear b1 P0 ca0 cb0 cc0 cd0 
      go_wp2_with fail
      refine (VA.out _ (HR.out.below P1.out)).mono ?_
      rintro e w2 ⟨rfl, b2⟩
      have P2 := Lib.hid (below_up P1.out b2)
      obtain ⟨ca2, cb2, cc2, cd2⟩ := HC.out _ P2.out
      clear b2 P1 ca1 cb1 cc1 cd1 
      go_wp2_with fail
      refine (CX.out _).mono ?_
      rintro e w3 ⟨rfl, b3⟩
      have P3 := Lib.hid (below_up P2.out b3)
      obtain ⟨ca3, cb3, cc3, cd3⟩ := HC.out _ P3.out
      clear b3 P2 ca2 cb2 cc2 cd2 
      go_wp2_with fail
      refine (CY.out _).mono ?_
      rintro e w4 ⟨rfl, b4⟩
      have P4 := Lib.hid (below_up P3.out b4)
      obtain ⟨ca4, cb4, cc4, cd4⟩ := HC.out _ P4.out
      clear b4 P3 ca3 cb3 cc3 cd3 
      go_wp2_with fail
      exact bodyPost_ret (v := .tuple #[.agg #[.string s, .string ⟨#[49]⟩], .int .i64 0]) (by simp [results, Tryz.results34, go_sem, ca4, cb4]) rfl ⟨rfl, rat_done B0.out (Nat.le_refl _) P4.out _ _⟩
end Go.Proofs.YtlcibnmcannapaaGreatDoor
