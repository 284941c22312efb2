/-
  The contract of the reference's Sample.
-/
import Derived.Test.YtdolmahodhgfpaaDoorSeedF
namespace Go.Proofs.YtdolmahodhgfpaaDoor
open Go Go.Proofs Go.RowKit Go.Lib

theorem add0_6 (p : Addr) : p.add 0 = p := by
  obtain ⟨b, o, q⟩ := p
  unfold Addr.add
  split <;> simp_all
theorem slice_to6 (ad : Option Addr) (n c k : Nat) (hk : k ≤ c) (w : World) : (Instr.slice 31 (.slice ad n c) none (some (.int .i64 (k : Int))) none).run Tryd.prog w = .ok (.slice ad k c) w := by
  rw [run_slice_h w _ _ _ _ ints_elem6 .i64 _ (by omega) (by omega), ints_cells6]
  simp only [Result.andThen, sliced]
  have e : (ad.map fun x => x.add (0 * 1)) = ad := by cases ad <;> simp [add0_6]
  rw [e]
  simp
theorem shufF_length {s : ByteArray} : ∀ (k : Nat) (l : List Nat) {m : List Nat}, shufF s k l = some m → m.length = l.length
  | 0, l, m, h => by
    unfold shufF at h
    injection h with h
    rw [h]
  | k + 1, l, m, h => by
    cases hd : drawO s ((k + 1 : Nat) : Int) ((k + 2 : Nat) : Int) with
    | none => rw [shufF_none hd] at h; cases h
    | some d =>
      rw [shufF_some hd] at h
      rw [shufF_length k _ h, swapN_length]
theorem shufO_length {s : ByteArray} {n : Int} {l : List Nat} (h : shufO s n = some l) : l.length = n.toNat ∧ 0 ≤ n ∧ n ≤ 1000 := by
  unfold shufO at h
  split at h
  · rename_i hb
    unfold shufB at hb
    rw [Bool.and_eq_true] at hb
    have hd := of_decide_eq_true hb.2
    exact ⟨by rw [shufF_length _ _ h, List.length_range], hd⟩
  · cases h
def sampO (s : ByteArray) (n k : Int) : Option (List Nat) := match shufO s n with
  | none => none
  | some l => if 0 ≤ k ∧ k ≤ n then some (l.take k.toNat) else none
theorem IntsL.take {W : World} {ad : Option Addr} {l : List Nat} (h : IntsL W ad (intsN l)) (k : Nat) : IntsL W ad (intsN (l.take k)) := by
  rcases h with h | ⟨b, o, h1, h2, h3⟩
  · left
    have : l = [] := by unfold intsN at h; exact List.map_eq_nil_iff.1 h
    subst this
    simp [intsN]
  · right
    refine ⟨b, o, h1, h2, fun i hi => ?_⟩
    have hi2 : i < (intsN l).length := by rw [intsN_length] at hi ⊢; rw [List.length_take] at hi; omega
    rw [h3 i hi2]
    simp [intsN]
set_option maxRecDepth 100000 in
set_option maxHeartbeats 16000000 in
theorem sampleR_any (s : ByteArray) (hs : s.size ≤ maxLen) (n k : Int) (w : World) : Calls Tryd.prog 23 #[.string s, .int .i64 n, .int .i64 k] w (ListPost6 w (sampO s n k)) := by
  have CS := Lib.hid (fun W => shuffleR_any s hs n W)
  cases ho : shufO s n with
  | none =>
    rw [ho] at CS
    have HO := Lib.hid (show sampO s n k = none by unfold sampO; rw [ho])
    clear ho
    go_enter Tryd.func23, Tryd.ntmps23
    go_wp2_with fail
    refine (CS.out _).mono ?_
    rintro e z ⟨rfl, bz⟩
    go_wp2
    go_ret2
    exact ListPost6.no HO.out bz
  | some l =>
    rw [ho] at CS
    obtain ⟨hlen, hn0, hn1⟩ := shufO_length ho
    by_cases h1 : k < 0
    · have HO := Lib.hid (show sampO s n k = none by unfold sampO; rw [ho]; exact if_neg (by omega))
      clear ho
      go_enter Tryd.func23, Tryd.ntmps23
      go_wp2_with fail
      refine (CS.out _).mono ?_
      rintro e z ⟨⟨ad, c, rfl, hc, hI⟩, bz⟩
      go_wp2
      go_ret2
      exact ListPost6.no HO.out bz
    · by_cases h2 : n < k
      · have HO := Lib.hid (show sampO s n k = none by unfold sampO; rw [ho]; exact if_neg (by omega))
        clear ho
        go_enter Tryd.func23, Tryd.ntmps23
        go_wp2_with fail
        refine (CS.out _).mono ?_
        rintro e z ⟨⟨ad, c, rfl, hc, hI⟩, bz⟩
        go_wp2
        go_ret2
        exact ListPost6.no HO.out bz
      · obtain ⟨m, rfl⟩ : ∃ m : Nat, k = (m : Int) := ⟨k.toNat, by omega⟩
        have HO := Lib.hid (show sampO s n (m : Int) = some (l.take m) by unfold sampO; rw [ho]; exact if_pos ⟨by omega, by omega⟩)
        have hml : m ≤ l.length := by omega
        have HML := Lib.hid hml
        clear ho hlen
        go_enter Tryd.func23, Tryd.ntmps23
        go_wp2_with fail
        refine (CS.out _).mono ?_
        rintro e z ⟨⟨ad, c, rfl, hc, hI⟩, bz⟩
        have HI := Lib.hid hI; have BZ := Lib.hid bz
        have hsl := fun W => slice_to6 ad l.length c m (by omega) W
        have HMC := Lib.hid (show m ≤ c by omega)
        clear hI bz hc
        go_wp2
        go_ret2
        exact ListPost6.yes HO.out (by rw [List.length_take]; have := HML.out; omega) HMC.out (HI.out.take m) BZ.out
end Go.Proofs.YtdolmahodhgfpaaDoor
