/-
  Layer 8, the program: the table of kinds; what an event's test asks, plain.
-/
import Derived.Test.YtifdcfjllonmgaaDoorKa
namespace Go.Proofs.YtifdcfjllonmgaaDoor
open Go Go.Proofs Go.RowKit Go.Lib

/-- The table of kinds as the program lays it. -/
def lkT (i : Nat) : Int := [2, 0, 0, 3, 99, 0, 4, 99, 0, 5, 99, 99, 6, 99, 99, 7, 9, 0].getD i 0
def HasLk (W : World) : Prop := ∀ i, i < 18 → W.cell? ⟨0, i, none⟩ = some (.int .i64 (lkT i))
structure Rdy (W : World) : Prop where
  tab : HasLk W
  lt : 0 < W.heap.size
theorem Rdy.below {W W' : World} (h : Rdy W) (b : Below W.heap.size W W') : Rdy W' :=
  ⟨fun i hi => (b.cell (p := ⟨0, i, none⟩) h.lt).trans (h.tab i hi), Nat.lt_of_lt_of_le h.lt b.size⟩
theorem Rdy.up {n : Nat} {W W' : World} (h : Rdy W) (b : Below n W W') (hn : 0 < n) : Rdy W' :=
  ⟨fun i hi => (b.cell (p := ⟨0, i, none⟩) hn).trans (h.tab i hi), Nat.lt_of_lt_of_le h.lt b.size⟩
/-- The fields of an event but the beginning of a span. -/
def linkB (ml mn : Int) (x : Ev) : Bool := inB x.lk 0 ml && inB x.gn 0 mn && x.op == 0 && x.vr == 0 && x.pe == 0
def begB (x : Ev) : Bool := inB x.lk (-1) 9 && x.lk != x.sp && x.gn == 0 && inB x.op 0 11 && inB x.vr 0 9 && inB x.pe (-1) 19
def tstB (x : Ev) : Bool :=
  if x.kd = 1 then begB x else if x.kd = 2 then linkB 0 0 x else if x.kd = 3 then linkB 99 0 x else if x.kd = 4 then linkB 99 0 x else if x.kd = 5 then linkB 99 99 x else if x.kd = 6 then linkB 99 99 x else if x.kd = 7 then linkB 9 0 x else false
def basB (x : Ev) : Bool := inB x.ag 0 5 && inB x.sq 0 999 && inB x.tm 0 1000000 && inB x.tr 0 999 && inB x.sp 0 9 && inB x.bt 0 1000
theorem inB_same (n k : Int) : inB n k k = (n == k) := by
  unfold inB
  rw [Bool.eq_iff_iff]
  simp
  omega
theorem and_sw (a b : Bool) : (a && b) = (b && a) := Bool.and_comm a b
theorem evB_tst (x : Ev) : evB x = (tstB x && basB x) := by
  have hz := inB_same
  unfold evB tstB basB linkB begB
  rw [Bool.eq_iff_iff]
  by_cases h1 : x.kd = 1
  · rw [h1]; simp; constructor <;> (rintro h; simp_all)
  by_cases h2 : x.kd = 2
  · rw [h2]; simp [hz]; constructor <;> (rintro h; simp_all)
  by_cases h3 : x.kd = 3
  · rw [h3]; simp [hz]; constructor <;> (rintro h; simp_all)
  by_cases h4 : x.kd = 4
  · rw [h4]; simp [hz]; constructor <;> (rintro h; simp_all)
  by_cases h5 : x.kd = 5
  · rw [h5]; simp; constructor <;> (rintro h; simp_all)
  by_cases h6 : x.kd = 6
  · rw [h6]; simp; constructor <;> (rintro h; simp_all)
  by_cases h7 : x.kd = 7
  · rw [h7]; simp [hz]; constructor <;> (rintro h; simp_all)
  simp [h1, h2, h3, h4, h5, h6, h7]
end Go.Proofs.YtifdcfjllonmgaaDoor
