/-
  Layer 8: rows of fleets and of rows of integers; a list cut.
-/
import Derived.Test.YtamefmojocegkaaDoorM00
namespace Go.Proofs.YtamefmojocegkaaDoor
open Go Go.Proofs Go.RowKit Go.Lib Go.Sort

structure Fs where
  (a1 : Option Addr) (n1 c1 : Nat) (lat lia : Int) (a2 : Option Addr) (n2 c2 : Nat) (a3 : Option Addr) (n3 c3 : Nat)
def KF : RowK Fs where
  n := 5
  bytes := 88
  et := 24
  st := 33
  zero := .agg #[.slice none 0 0, .int .i64 0, .int .i64 0, .slice none 0 0, .slice none 0 0]
  cs := fun x => [.slice x.a1 x.n1 x.c1, .int .i64 x.lat, .int .i64 x.lia, .slice x.a2 x.n2 x.c2, .slice x.a3 x.n3 x.c3]
  len := fun _ => rfl
  one := fun x u hu => by
    simp at hu
    rcases hu with rfl | rfl | rfl | rfl | rfl <;> rfl
  pos := by decide
  bb := by decide
  und := by kernel_rfl
  elem := by kernel_rfl
  info := by kernel_rfl
  zs := rfl
theorem at_fl8 (g n c k : Nat) (hk : k < n) (w : World) : (Instr.indexAt 33 (.slice (some ⟨g, 0, none⟩) n c) (.int .i64 (k : Int))).run Tryd.prog w = .ok (.pointer (some ⟨g, 5 * k, none⟩)) w := by
  have := KF.at_ g 0 n c k hk w
  rw [show 0 + KF.n * k = 5 * k by show 0 + 5 * k = _; omega] at this
  exact this
def KY : RowK Sv where
  n := 1
  bytes := 24
  et := 22
  st := 42
  zero := .slice none 0 0
  cs := fun x => [.slice x.ad x.n x.c]
  len := fun _ => rfl
  one := fun x u hu => by
    simp at hu
    subst hu
    rfl
  pos := by decide
  bb := by decide
  und := by kernel_rfl
  elem := by kernel_rfl
  info := by kernel_rfl
  zs := rfl
theorem at_y8 (g n c k : Nat) (hk : k < n) (w : World) : (Instr.indexAt 42 (.slice (some ⟨g, 0, none⟩) n c) (.int .i64 (k : Int))).run Tryd.prog w = .ok (.pointer (some ⟨g, k, none⟩)) w := by
  have := KY.at_ g 0 n c k hk w
  rw [show 0 + KY.n * k = k by show 0 + 1 * k = _; omega] at this
  exact this
theorem take_lenE {α : Type} (l : List α) (n : Nat) : (l.take n).length = if l.length < n then l.length else n := by rw [List.length_take]; split <;> omega
theorem RowK.to8 {T : Type} (K : RowK T) (ad : Option Addr) (n c k : Nat) (hk : k ≤ c) (w : World) : (Instr.slice K.st (.slice ad n c) none (some (.int .i64 (k : Int))) none).run Tryd.prog w = .ok (.slice ad k c) w := by
  have hu := K.und
  rw [← K.elem] at hu
  obtain ⟨i0, hi, hz0, hz1, hz2⟩ := info_parts K.info
  rw [← K.elem] at hi
  have hs : ∀ w, (Go.sizeOf (Tryd.prog.elem K.st)).run Tryd.prog w = .ok K.n w := fun w => by simp [sizeOf, typeInfo, hi, Result.andThen, hz1]
  rw [run_slice_h w _ _ _ _ hu .i64 _ (by omega) (by omega), hs]
  cases ad with
  | none => simp [Result.andThen, sliced]
  | some a =>
    rcases a with ⟨b, o, s⟩
    cases s <;> simp [Result.andThen, sliced, Addr.add]
end Go.Proofs.YtamefmojocegkaaDoor
