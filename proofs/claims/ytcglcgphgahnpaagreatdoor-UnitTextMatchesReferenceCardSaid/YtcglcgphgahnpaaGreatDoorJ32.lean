/-
  Plain mathematics of layer 4: comparing fractions by whole parts and remainders; what Print and Parse answer. Plain mathematics of layer 5: which texts are quantities, the text of a quantity, and the quantity of a text. The contracts of the reference's power, grid, Down, Up and Print; powers of ten as texts.
-/
import Derived.Test.YtcglcgphgahnpaaGreatDoorJ12
set_option maxRecDepth 100000
set_option maxHeartbeats 16000000
namespace Go.Proofs.YtcglcgphgahnpaaGreatDoor
theorem no_slash {s : ByteArray} (h : ∀ i (hi : i < s.size), (s[i]'hi).toNat ≠ 47) : slashAt s = s.size := by
 unfold slashAt
 rw [← bytesL_length, List.findIdx_eq_length]
 intro x hx
 obtain ⟨i, hi, rfl⟩ := List.getElem_of_mem hx
 rw [bytesL_length] at hi
 rw [bytesL_get s i hi]
 simpa using h i hi
theorem slash_here {s : ByteArray} {k : Nat} (hk : k < s.size) (h : ∀ i (hi : i < s.size), i < k → (s[i]'hi).toNat ≠ 47) (h1 : (s[k]'hk).toNat = 47) : slashAt s = k := by
 unfold slashAt
 rw [List.findIdx_eq (by rw [bytesL_length]; exact hk)]
 refine ⟨by rw [bytesL_get s k hk]; simp [h1], fun j hj => ?_⟩
 rw [bytesL_get s j (by omega)]
 simpa using h j (by omega) hj
theorem textI_bytes (x : Int) : ∀ z ∈ bytesL (textI x), z = 45 ∨ 48 ≤ z ∧ z < 58 := by
 intro z hz
 rw [bytesL_textI] at hz
 rcases List.mem_append.1 hz with h | h
 · split at h
   · left; simpa using h
   simp at h
 right; exact textN_dig _ z h
theorem parse_print {n d : ByteArray} (h : validQ n d = true) : parseB (printB n d) = true ∧ cutN (printB n d) = n ∧ cutD (printB n d) = d := by
 obtain ⟨_, hn, hd⟩ := text_validQ h
 have hN : ∀ z ∈ bytesL n, z ≠ 47 := by
  intro z hz; rw [hn] at hz; have := textI_bytes _ z hz; omega
 have key : cutN (printB n d) = n ∧ cutD (printB n d) = d := by
  by_cases h1 : d = ⟨#[49]⟩
  · have e : printB n d = n := by unfold printB; rw [if_pos h, if_pos h1]
    have e2 : slashAt n = n.size := by
     unfold slashAt
     rw [← bytesL_length, List.findIdx_eq_length]
     intro x hx
     simpa using hN x hx
    rw [e]
    unfold cutN cutD
    rw [if_neg (by omega), if_neg (by omega)]
    exact ⟨rfl, h1.symm⟩
  have e : printB n d = n ++ ⟨#[47]⟩ ++ d := by unfold printB; rw [if_pos h, if_neg h1]
  have el : bytesL (n ++ ⟨#[47]⟩ ++ d) = bytesL n ++ 47 :: bytesL d := by rw [bytesL_append, bytesL_append, List.append_assoc]; rfl
  have e2 : slashAt (n ++ ⟨#[47]⟩ ++ d) = n.size := by
   unfold slashAt
   rw [el, List.findIdx_append, List.findIdx_eq_length.2 (fun x hx => by simpa using hN x hx), bytesL_length, List.findIdx_cons]
   simp
  have e3 : (n ++ ⟨#[47]⟩ ++ d).size = n.size + (1 + d.size) := by rw [ByteArray.size_append, ByteArray.size_append, Nat.add_assoc]; rfl
  rw [e]
  unfold cutN cutD
  rw [e2, e3, if_pos (by omega), if_pos (by omega)]
  refine ⟨?_, ?_⟩
  · rw [ByteArray.append_assoc, ByteArray.extract_append_eq_left rfl]
  rw [ByteArray.extract_append_eq_right (by rw [ByteArray.size_append]; rfl) (by rw [ByteArray.size_append, Nat.add_assoc]; rfl)]
 refine ⟨?_, key⟩
 unfold parseB
 rw [key.1, key.2, h]
 simp
end Go.Proofs.YtcglcgphgahnpaaGreatDoor
namespace Go.Proofs.YtcglcgphgahnpaaGreatDoor
theorem unit_len {t b m c : Int} (ht : InE t) (hb : InE b) (hm : InE m) (hc : InE c) : (unitL t b m c).length ≤ 32 := by
 have h0 := part_len' (i := 0) (by omega) ht
 have h1 := part_len' (i := 1) (by omega) hb
 have h2 := part_len' (i := 2) (by omega) hm
 have h3 := part_len' (i := 3) (by omega) hc
 simp only [unitL, List.length_append]
 omega
theorem print_nospace {n d : ByteArray} (h : validQ n d = true) : 32 ∉ bytesL (printB n d) := by
 obtain ⟨h1, h2, _⟩ := validQ_parts h
 have e1 := (text_valid h1).2
 have e2 := (text_valid h2).2
 have k1 : 32 ∉ bytesL n := fun hm => by
  rw [e1] at hm
  rcases textI_bytes _ _ hm with h | h <;> omega
 have k2 : 32 ∉ bytesL d := fun hm => by
  rw [e2] at hm
  rcases textI_bytes _ _ hm with h | h <;> omega
 unfold printB
 rw [if_pos h]
 split
 · exact k1
 rw [bytesL_append, bytesL_append]
 intro hm
 rcases List.mem_append.1 hm with hm | hm
 · rcases List.mem_append.1 hm with hm | hm
   · exact k1 hm
   have : bytesL (⟨#[47]⟩ : ByteArray) = [47] := rfl
   rw [this, List.mem_singleton] at hm
   omega
 exact k2 hm
theorem behind_unit {t b m c : Int} (ht : InE t) (hb : InE b) (hm : InE m) (hc : InE c) : unitL t b m c = [] ∨ (unitL t b m c).head? = some 32 := by
 have h3 : Behind 2 (partL 3 c) := by have := behind_part (i := 2) (j := 3) (by omega) (by omega) hc (behind_nil 3); rwa [List.append_nil] at this
 have h2 : Behind 1 (partL 2 m ++ partL 3 c) := behind_part (by omega) (by omega) hm h3
 have h1 : Behind 0 (partL 1 b ++ (partL 2 m ++ partL 3 c)) := behind_part (by omega) (by omega) hb h2
 by_cases h0 : t = 0
 · subst h0; exact h1.head
 obtain ⟨q, e, _⟩ := part_shape 0 (by omega) t (exps_mem ht h0)
 right
 unfold unitL
 rw [e]; rfl
theorem split_at {r s : List Nat} (h : 32 ∉ r) (hs : s = [] ∨ s.head? = some 32) : headL (r ++ s) = r ∧ restL (r ++ s) = s := by
 have h1 : headL (r ++ s) = r := takeWhile_stop h hs
 refine ⟨h1, ?_⟩
 have h2 := head_rest (r ++ s)
 rw [h1] at h2
 exact List.append_cancel_left h2
theorem parU_print {n d : ByteArray} {t b m c : Int} (h : okU n d t b m c = true) :
 parUB (textU n d t b m c) = true ∧ cutN (fracT (textU n d t b m c)) = n ∧ cutD (fracT (textU n d t b m c)) = d ∧ expT (textU n d t b m c) = (t, b, m, c, []) := by
 obtain ⟨hE, hF⟩ := okU_parts h
 obtain ⟨ht, hb, hm, hc⟩ := okE_in hE
 have hv := fit60_valid hF
 obtain ⟨s1, s2⟩ := split_at (print_nospace hv) (behind_unit ht hb hm hc)
 have e1 : fracT (textU n d t b m c) = printB n d := by unfold fracT; rw [bytesL_textU h, s1, byteL_bytesL]
 have e2 : expT (textU n d t b m c) = (t, b, m, c, []) := by unfold expT; rw [bytesL_textU h, s2, readU_unit ht hb hm hc]
 obtain ⟨p1, p2, p3⟩ := parse_print hv
 refine ⟨?_, by rw [e1]; exact p2, by rw [e1]; exact p3, e2⟩
 unfold parUB
 rw [e1, e2, p1, p2, p3, h]
 rfl
theorem textU_size (n d : ByteArray) (t b m c : Int) : (textU n d t b m c).size = (printB n d).size + (unitL t b m c).length := by
 unfold textU
 rw [ByteArray.size_append, byteL_size]
end Go.Proofs.YtcglcgphgahnpaaGreatDoor
namespace Go.Proofs.YtcglcgphgahnpaaGreatDoor
open Go Go.Proofs Go.RowKit Go.Lib
theorem printR4_any (n d : ByteArray) (hn : n.size ≤ 1099511627776) (hd : d.size ≤ 1099511627776) (w : World) :
 Calls Tryz.prog 67 #[.agg #[.string n, .string d]] w fun e w' => e = .returned (.string (printB n d)) ∧ Below w.heap.size w w' := by
 obtain ⟨W0, hW0, b0, hcc⟩ := box_one w n d
 have HW := hid hW0; have HC := hid hcc; have B0 := hid b0
 have P0 := hid (Below.refl W0.heap.size W0)
 clear hW0 hcc b0
 have va := fun W => validR4_any n d hn hd W
 unfold printB
 have h1 : (d.toList == (⟨#[49]⟩ : ByteArray).toList) = decide (d = ⟨#[49]⟩) := by rw [str_eq_iff]
 rw [list49] at h1
 cases hv : validQ n d with
 | false =>
  rw [hv] at va
  rw [if_neg (by decide)]
  have VA := hid va
  clear va hv h1
  go_enter Tryz.func67, Tryz.ntmps67
  obtain ⟨ca0, cb0, cc0, cd0⟩ := HC.out _ (Below.refl _ _)
  go_wp2_with (rw [HW.out])
  refine (VA.out _).mono ?_
  rintro e w1 ⟨rfl, b1⟩
  have P1 := hid (below_up P0.out b1)
  obtain ⟨ca1, cb1, cc1, cd1⟩ := HC.out _ P1.out
  clear b1 P0 ca0 cb0 cc0 cd0 
  go_wp2
  go_ret
  exact ⟨rfl, below_up B0.out P1.out⟩
 | true =>
  rw [hv] at va
  rw [if_pos rfl]
  obtain ⟨v1, v2, _, _⟩ := validQ_parts hv
  have l1 := len_le v1
  have l2 := len_le v2
  have VA := hid va
  clear va hv v1 v2 hn hd
  by_cases hd1 : d = ⟨#[49]⟩
  · rw [decide_eq_true hd1] at h1
    rw [if_pos hd1]
    clear hd1
    go_enter Tryz.func67, Tryz.ntmps67
    obtain ⟨ca0, cb0, cc0, cd0⟩ := HC.out _ (Below.refl _ _)
    go_wp2_with (rw [HW.out])
    refine (VA.out _).mono ?_
    rintro e w1 ⟨rfl, b1⟩
    have P1 := hid (below_up P0.out b1)
    obtain ⟨ca1, cb1, cc1, cd1⟩ := HC.out _ P1.out
    clear b1 P0 ca0 cb0 cc0 cd0 
    go_wp2
    go_ret
    exact ⟨rfl, below_up B0.out P1.out⟩
  rw [decide_eq_false hd1] at h1
  rw [if_neg hd1]
  clear hd1
  go_enter Tryz.func67, Tryz.ntmps67
  obtain ⟨ca0, cb0, cc0, cd0⟩ := HC.out _ (Below.refl _ _)
  go_wp2_with (rw [HW.out])
  refine (VA.out _).mono ?_
  rintro e w1 ⟨rfl, b1⟩
  have P1 := hid (below_up P0.out b1)
  obtain ⟨ca1, cb1, cc1, cd1⟩ := HC.out _ P1.out
  clear b1 P0 ca0 cb0 cc0 cd0 
  go_wp2
  go_ret
  exact ⟨rfl, below_up B0.out P1.out⟩
end Go.Proofs.YtcglcgphgahnpaaGreatDoor
