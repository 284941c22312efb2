/-
  Layer 8: the law's single and sane, over whatever keeps the contracts of the program's functions.
-/
import Derived.Test.YtifdcfjllonmgaaDoorLb
import Derived.Test.YtifdcfjllonmgaaDoorLa
import Derived.Test.YtifdcfjllonmgaaDoorJa
import Derived.Test.YtifdcfjllonmgaaDoorHo
namespace Go.Proofs.YtifdcfjllonmgaaDoor
open Go Go.Proofs Go.RowKit Go.Lib

theorem CellsAt.rnK {T : Type} (K : RowK T) {W : World} {base g : Nat} {l : List T} (h : CellsAt W g (K.vs l)) (hb : base ≤ g) (hg : g < W.heap.size) : RN K W base (some ⟨g, 0, none⟩) l := by
  refine .inr ⟨g, 0, rfl, hb, hg, fun i hi j hj => ?_⟩
  have hl := K.vs_length l
  have hij : K.n * i + j < (K.vs l).length := by
    rw [hl]
    have : K.n * (i + 1) ≤ K.n * l.length := Nat.mul_le_mul_left _ hi
    rw [Nat.mul_add, Nat.mul_one, Nat.mul_comm K.n l.length] at this
    omega
  rw [Nat.zero_add, (h _ hij).1, ← K.vs_get l i j hi hj, List.getElem?_eq_getElem hij]
def SinglePost (w : World) (e : Ending) (w' : World) : Prop := ∃ v, e = .returned v ∧ FlAt w' v sF ∧ Below w.heap.size w w'
set_option maxRecDepth 100000 in
set_option maxHeartbeats 4000000 in
theorem single_any (w : World) : Calls Tryd.prog 35 #[] w (SinglePost w) := by
  obtain ⟨w1, V1, Z1, K1, B1⟩ := lay8 w [.slice none 0 0, .int .i64 0, .int .i64 0, .slice none 0 0, .slice none 0 0] 24
  obtain ⟨w2, V2, Z2, K2, B2⟩ := lay8 w1 [.int .i64 0] 3
  obtain ⟨w3, V3, Z3, K3, B3⟩ := lay8 w2 [.int .i64 0] 3
  obtain ⟨w4, V4, Z4, K4, B4⟩ := lay8 w3 [.int .i64 0] 3
  rw [Z1] at Z2 K2 B2
  rw [Z2] at Z3 K3 B3
  rw [Z3] at Z4 K4 B4
  simp only [Nat.add_assoc, Nat.reduceAdd] at Z2 Z3 Z4 K3 K4 B3 B4
  have F1 := ((K1.up B2 (by omega)).up B3 (by omega)).up B4 (by omega)
  have F2 := (K2.up B3 (by omega)).up B4 (by omega)
  have F3 := K3.up B4 (by omega)
  have HB := Lib.hid (show Below w.heap.size w w4 from B1.trans ((B2.mono (by omega)).trans ((B3.mono (by omega)).trans (B4.mono (by omega)))))
  obtain ⟨wf, VF, FF, FB⟩ : ∃ wf, (((((w4.setCell ⟨w.heap.size, 0, none⟩ (.slice (some ⟨w.heap.size + 1, 0, none⟩) 1 1)).setCell ⟨w.heap.size, 1, none⟩ (.int .i64 5)).setCell ⟨w.heap.size, 2, none⟩ (.int .i64 0)).setCell ⟨w.heap.size, 3, none⟩ (.slice (some ⟨w.heap.size + 2, 0, none⟩) 1 1)).setCell ⟨w.heap.size, 4, none⟩ (.slice (some ⟨w.heap.size + 3, 0, none⟩) 1 1)) = wf ∧ CellsAt wf w.heap.size [.slice (some ⟨w.heap.size + 1, 0, none⟩) 1 1, .int .i64 5, .int .i64 0, .slice (some ⟨w.heap.size + 2, 0, none⟩) 1 1, .slice (some ⟨w.heap.size + 3, 0, none⟩) 1 1] ∧ Below w.heap.size w wf :=
    ⟨_, rfl, ((((F1.put 0 _).put 1 _).put 2 _).put 3 _).put 4 _, ((((HB.out.setCell (by simp) _).setCell (by simp) _).setCell (by simp) _).setCell (by simp) _).setCell (by simp) _⟩
  have HP := Lib.hid (show SinglePost w (.returned (.agg #[.slice (some ⟨w.heap.size + 1, 0, none⟩) 1 1, .int .i64 5, .int .i64 0, .slice (some ⟨w.heap.size + 2, 0, none⟩) 1 1, .slice (some ⟨w.heap.size + 3, 0, none⟩) 1 1])) wf from by
    refine ⟨_, rfl, ⟨_, _, _, _, _, _, rfl, ?_, ?_, ?_⟩, FB⟩
    · subst VF
      exact (CellsAt.rn (l := [0]) (base := w.heap.size) (((((F2.far (by omega)).far (by omega)).far (by omega)).far (by omega)).far (by omega)) (by omega) (by simp; omega)).rl
    · subst VF
      exact (CellsAt.rn (l := [0]) (base := w.heap.size) (((((F3.far (by omega)).far (by omega)).far (by omega)).far (by omega)).far (by omega)) (by omega) (by simp; omega)).rl
    · subst VF
      exact (CellsAt.rn (l := [0]) (base := w.heap.size) (((((K4.far (by omega)).far (by omega)).far (by omega)).far (by omega)).far (by omega)) (by omega) (by simp; omega)).rl)
  have f0 := (FF 0 (by simp)).1; have f1 := (FF 1 (by simp)).1; have f2 := (FF 2 (by simp)).1; have f3 := (FF 3 (by simp)).1; have f4 := (FF 4 (by simp)).1
  simp only [List.getElem_cons_zero, List.getElem_cons_succ] at f0 f1 f2 f3 f4
  obtain ⟨g0, g0'⟩ := F1 0 (by simp); obtain ⟨g1, g1'⟩ := F1 1 (by simp); obtain ⟨g2, g2'⟩ := F1 2 (by simp); obtain ⟨g3, g3'⟩ := F1 3 (by simp); obtain ⟨g4, g4'⟩ := F1 4 (by simp)
  clear F1 F2 F3 K1 K2 K3 K4 B1 B2 B3 B4 FF FB HB
  go_enter Tryd.func35, Tryd.ntmps35
  go_wp2_with fail
  exact bodyPost_ret (v := .agg #[.slice (some ⟨w.heap.size + 1, 0, none⟩) 1 1, .int .i64 5, .int .i64 0, .slice (some ⟨w.heap.size + 2, 0, none⟩) 1 1, .slice (some ⟨w.heap.size + 3, 0, none⟩) 1 1]) (by simp [results, Tryd.results35, go_sem, f0, f1, f2, f3, f4]) rfl HP.out
end Go.Proofs.YtifdcfjllonmgaaDoor
