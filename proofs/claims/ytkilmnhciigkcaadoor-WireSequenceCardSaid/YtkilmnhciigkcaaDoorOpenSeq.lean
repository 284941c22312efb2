/-
  Slices of integers and of strings that came in: what they hold, for WireSequence.
-/
import Derived.Test.YtkilmnhciigkcaaDoorLaid
import Derived.Test.YtkilmnhciigkcaaDoorLawSequence
import Derived.Deep.MidRow
namespace Go.Proofs.YtkilmnhciigkcaaDoor
open Go Go.ChangeShapes Go.WideShapes Go.ChangeAt Go.RowKit

theorem addr_none {w : World} {a : Addr} {v : Value} (h : w.cell? (a.add 0) = some v) : a = ⟨a.block, a.off, none⟩ := by
  obtain ⟨b, o, sp⟩ := a
  have := World.cell?_spot h
  rw [Addr.add_zero'] at this
  have hs : sp = none := this
  subst hs
  rfl

theorem open_ints_in {H : Type} {enc : TypeId × Value → H} {w : World} {b0 : Nat} {v : Value} {d : DataW H} {ps : List MemPlace}
    (hval : Value.okWide Tryd.prog w .any b0 24 v) (hd : DataW.Trod enc Tryd.prog w 0 (fun _ => true) true 24 v d ps) :
    ∃ a len cap, v = .slice a len cap ∧ len ≤ maxLen ∧ ∃ z, IntsIn w a len z := by
  obtain ⟨a0, len, cap, rfl⟩ := okWide_slice Tryd.underlying24 hval
  obtain ⟨fuel, hf⟩ := hd
  rcases open_ints Tryd.underlying24 Tryd.underlying3 (by kernel_rfl) hf with ⟨hcs, _⟩ | ⟨x, l, c, zs, hcs, _, hl, hm, hz, _, hcell, hwz⟩
  · simp [Value.cells] at hcs
    obtain ⟨rfl, rfl, rfl⟩ := hcs
    exact ⟨none, 0, 0, rfl, Nat.zero_le _, fun _ => 0, .inl rfl⟩
  · simp [Value.cells] at hcs
    obtain ⟨rfl, rfl, rfl⟩ := hcs
    have hz2 : zs.length = cap := by simpa using hz
    refine ⟨_, len, cap, rfl, Nat.le_trans hl hm, fun i => zs.getD i 0, ?_⟩
    by_cases h0 : len = 0
    · exact .inl h0
    · right
      have c0 := hcell 0 (by omega)
      have hx := addr_none c0
      refine ⟨x.block, x.off, by rw [← hx], ?_, fun i hi => ?_⟩
      · have := block_of_cell c0
        rw [Addr.add_zero'] at this; exact this
      · have ci := hcell i (by omega)
        rw [hx] at ci
        have hb := int_bounds (hwz (zs.getD i 0) (by
          rw [List.getD_eq_getElem?_getD, List.getElem?_eq_getElem (by omega)]
          exact List.getElem_mem _))
        rw [Addr.add_mid] at ci
        exact ⟨ci, hb⟩

theorem open_strs_in {H : Type} {enc : TypeId × Value → H} {w : World} {b0 : Nat} {v : Value} {d : DataW H} {ps : List MemPlace}
    (hval : Value.okWide Tryd.prog w .any b0 40 v) (hd : DataW.Trod enc Tryd.prog w 0 (fun _ => true) true 40 v d ps) :
    ∃ a len cap, v = .slice a len cap ∧ len ≤ maxLen ∧ ∃ t, StrsIn w a len t := by
  obtain ⟨a0, len, cap, rfl⟩ := okWide_slice Tryd.underlying40 hval
  obtain ⟨fuel, hf⟩ := hd
  rcases open_strings Tryd.underlying40 Tryd.underlying9 (by kernel_rfl) hf with ⟨hcs, _⟩ | ⟨x, l, c, zs, hcs, _, hl, hm, hz, _, hcell, hwz⟩
  · simp [Value.cells] at hcs
    obtain ⟨rfl, rfl, rfl⟩ := hcs
    exact ⟨none, 0, 0, rfl, Nat.zero_le _, fun _ => ByteArray.empty, .inl rfl⟩
  · simp [Value.cells] at hcs
    obtain ⟨rfl, rfl, rfl⟩ := hcs
    have hz2 : zs.length = cap := by simpa using hz
    refine ⟨_, len, cap, rfl, Nat.le_trans hl hm, fun i => zs.getD i ByteArray.empty, ?_⟩
    by_cases h0 : len = 0
    · exact .inl h0
    · right
      have c0 := hcell 0 (by omega)
      have hx := addr_none c0
      refine ⟨x.block, x.off, by rw [← hx], ?_, fun i hi => ?_⟩
      · have := block_of_cell c0
        rw [Addr.add_zero'] at this; exact this
      · have ci := hcell i (by omega)
        rw [hx] at ci
        have hb := hwz (zs.getD i ByteArray.empty) (by
          rw [List.getD_eq_getElem?_getD, List.getElem?_eq_getElem (by omega)]
          exact List.getElem_mem _)
        rw [Addr.add_mid] at ci
        exact ⟨ci, hb⟩

theorem sequence_walk0 (a1 : Option Addr) (n1 c1 : Nat) (a2 : Option Addr) (n2 c2 : Nat) (w : World) (h1 : n1 ≤ maxLen ∧ ∃ z, IntsIn w a1 n1 z) (h2 : n2 ≤ maxLen ∧ ∃ t, StrsIn w a2 n2 t)
    (hT : HasTab w) (h0 : 0 < w.heap.size) :
    Calls Tryd.prog 6 #[.slice a1 n1 c1, .slice a2 n2 c2] w fun e w' => e = .returned (.bool true) ∧ Below w.heap.size w w' := by
  obtain ⟨l1, z, hI⟩ := h1
  obtain ⟨l2, t, hS⟩ := h2
  exact sequence_walk a1 a2 n1 n2 c1 c2 z t l1 l2 w hI hS hT h0
end Go.Proofs.YtkilmnhciigkcaaDoor
