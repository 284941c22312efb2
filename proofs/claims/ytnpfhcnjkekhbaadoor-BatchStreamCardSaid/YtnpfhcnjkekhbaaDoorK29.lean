/-
  Layer 9, the program: isIn isAgent isFirst isLow isHead areNumbered areSizes areLows areEvents isKept.
-/
import Derived.Test.YtnpfhcnjkekhbaaDoorProg
import Derived.Test.YtnpfhcnjkekhbaaDoorK14
import Derived.Test.YtnpfhcnjkekhbaaDoorK27
import Derived.Test.YtnpfhcnjkekhbaaDoorK28
import Derived.Maps.Own
import Derived.Maps.OwnOps
import Derived.Laws.Rows
import Derived.Laws.OwnMore
import Derived.OwnWalk
import Derived.WalkKit
import Derived.WalkLawsBesides
import Derived.Outline
import Derived.Lib.Hide
import Derived.Below
import Derived.BigQuiet
import Derived.Deep.QuietTactic
import Derived.Deep.RegionHeld3
import Derived.Lib.QuietBelow
import Derived.Deep.DeepCutAuto
import Derived.StillTail
import Derived.Lib.Varint
set_option maxRecDepth 100000
set_option maxHeartbeats 16000000
namespace Go.Proofs.YtnpfhcnjkekhbaaDoor
open Go Go.Proofs Go.RowKit Go.Lib Go.Maps
theorem areEvents1_u (x : Ev) (hk : x.wf) (w : World) (hR : Rdy w) : Calls Tryd.prog 51 #[x.val] w fun e w' => e = .returned (.bool (!evB x)) ∧ Below w.heap.size w w' := by
 obtain ⟨w1, V1, Z1, K1, B1⟩ := lay8 w x.cells 44
 have V1 := (show w.alloc (.cells #[.int .i64 x.ag, .int .i64 x.sq, .int .i64 x.tm, .int .i64 x.kd, .int .i64 x.tr, .int .i64 x.sp, .int .i64 x.lk, .int .i64 x.gn, .int .i64 x.op, .int .i64 x.vr, .int .i64 x.pe, .int .i64 x.bt] 44) = w1 from V1)
 obtain ⟨d0, d1, d2, d3, d4, d5, d6, d7, d8, d9, d10, d11⟩ := CellsAt.ev K1
 have HC := Lib.hid (event_u x hk w1 (hR.below B1))
 have HB := Lib.hid B1
 rw [Ev.val_mk] at HC ⊢
 generalize evB x = R at *
 clear hR hk K1 B1
 go_enter Tryd.func51, Tryd.ntmps51
 go_wp2_with fail
 refine (HC.out).mono ?_
 rintro e z ⟨rfl, hz⟩
 have HZ := Lib.hid (below_up8 HB.out hz)
 clear hz d0 d1 d2 d3 d4 d5 d6 d7 d8 d9 d10 d11 V1
 go_wp2_with fail
 go_ret
 exact ⟨rfl, HZ.out⟩
theorem all_any9 (l : List Ev) : (!(l.any fun e => !evB e)) = l.all evB := by
 rw [List.not_any_eq_all_not]
 congr 1
 funext a
 simp
theorem areEvents_u (ad : Option Addr) (c : Nat) (l : List Ev) (hl : l.length ≤ maxLen) (hw : evsW l) (w : World) (hR : Rdy w) (hI : RL KE w ad l) :
 Calls Tryd.prog 34 #[.slice ad l.length c] w fun e w' => e = .returned (.bool (l.all evB)) ∧ Below w.heap.size w w' := by
 have HC := Lib.hid (containsEv_u (fun x => !evB x) 51 #[] ad c l hl w hI (by intro args W; rfl) (fun x hx W b => areEvents1_u x (hw x hx) W (hR.below b)))
 have HA := Lib.hid (all_any9 l)
 generalize (l.any fun e => !evB e) = R at *
 generalize l.all evB = R2 at *
 clear hl hw hR hI
 go_enter Tryd.func34, Tryd.ntmps34
 go_wp2_with fail
 refine (HC.out).mono ?_
 rintro e z ⟨rfl, hz⟩
 have HZ := Lib.hid hz
 clear hz
 go_wp2_with fail
 go_ret
 exact ⟨by rw [← HA.out]; rfl, HZ.out⟩
end Go.Proofs.YtnpfhcnjkekhbaaDoor
