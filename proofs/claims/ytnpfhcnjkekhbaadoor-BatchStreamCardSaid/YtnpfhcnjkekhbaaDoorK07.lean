/-
  strings.Repeat, strings.Builder: the library's contracts, laid at this program's numbers.
-/
import Derived.Test.YtnpfhcnjkekhbaaDoorProg
import Derived.Shelf.Strings.BuilderK
import Derived.Shelf.Strings.Repeat
set_option maxRecDepth 100000
set_option maxHeartbeats 16000000
namespace Go.Proofs.YtnpfhcnjkekhbaaDoor
open Go Go.Proofs Go.Shelf Go.RowKit
def lays105_ren : Go.Shelf.Ren := ⟨fun | 105 => 47 | 212 => 65 | 99 => 66 | 165 => 67 | 166 => 60 | 170 => 68 | 169 => 61 | 263 => 80 | 264 => 81 | 206 => 82 | 240 => 79 | 241 => 83 | 276 => 89 | 277 => 90 | n => n, fun | 9 => 9 | 3 => 3 | 4 => 4 | 20 => 20 | 0 => 0 | 46 => 113 | 109 => 114 | 5 => 5 | 72 => 105 | 76 => 108 | 51 => 95 | 146 => 134 | 53 => 129 | 148 => 136 | 70 => 103 | 37 => 63 | 75 => 107 | 127 => 133 | 164 => 145 | 80 => 34 | n => n, fun | n => n⟩
theorem lays105 : Go.Proofs.Lays.n105 Tryd.prog lays105_ren := {
 mixed := by kernel_rfl
 f99 := Tryd.func66.trans (congrArg some (by kernel_rfl))
 f105 := Tryd.func47.trans (congrArg some (by kernel_rfl))
 f165 := Tryd.func67.trans (congrArg some (by kernel_rfl))
 f166 := Tryd.func60.trans (congrArg some (by kernel_rfl))
 f169 := Tryd.func61.trans (congrArg some (by kernel_rfl))
 f170 := Tryd.func68.trans (congrArg some (by kernel_rfl))
 f206 := Tryd.func82.trans (congrArg some (by kernel_rfl))
 f212 := Tryd.func65.trans (congrArg some (by kernel_rfl))
 f240 := Tryd.func79.trans (congrArg some (by kernel_rfl))
 f241 := Tryd.func83.trans (congrArg some (by kernel_rfl))
 f263 := Tryd.func80.trans (congrArg some (by kernel_rfl))
 f264 := Tryd.func81.trans (congrArg some (by kernel_rfl))
 f276 := Tryd.func89.trans (congrArg some (by kernel_rfl))
 f277 := Tryd.func90.trans (congrArg some (by kernel_rfl))
 t0 := Tryd.underlying0
 a0 := Tryd.isAgg0
 z0 := Tryd.sizeOf0
 v0 := Tryd.zeroValue0
 t3 := Tryd.underlying3
 a3 := Tryd.isAgg3
 z3 := Tryd.sizeOf3
 v3 := Tryd.zeroValue3
 t4 := Tryd.underlying4
 a4 := Tryd.isAgg4
 z4 := Tryd.sizeOf4
 v4 := Tryd.zeroValue4
 t5 := Tryd.underlying5
 a5 := Tryd.isAgg5
 z5 := Tryd.sizeOf5
 v5 := Tryd.zeroValue5
 t9 := Tryd.underlying9
 a9 := Tryd.isAgg9
 z9 := Tryd.sizeOf9
 v9 := Tryd.zeroValue9
 t20 := Tryd.underlying20
 a20 := Tryd.isAgg20
 z20 := Tryd.sizeOf20
 v20 := Tryd.zeroValue20
 t37 := Tryd.underlying63
 a37 := Tryd.isAgg63
 z37 := Tryd.sizeOf63
 v37 := Tryd.zeroValue63
 t46 := Tryd.underlying113
 a46 := Tryd.isAgg113
 z46 := Tryd.sizeOf113
 v46 := Tryd.zeroValue113
 t51 := Tryd.underlying95
 a51 := Tryd.isAgg95
 z51 := Tryd.sizeOf95
 v51 := Tryd.zeroValue95
 t53 := Tryd.underlying129
 a53 := Tryd.isAgg129
 z53 := Tryd.sizeOf129
 v53 := Tryd.zeroValue129
 t70 := Tryd.underlying103
 a70 := Tryd.isAgg103
 z70 := Tryd.sizeOf103
 v70 := Tryd.zeroValue103
 t72 := Tryd.underlying105
 a72 := Tryd.isAgg105
 z72 := Tryd.sizeOf105
 v72 := Tryd.zeroValue105
 t75 := Tryd.underlying107
 a75 := Tryd.isAgg107
 z75 := Tryd.sizeOf107
 v75 := Tryd.zeroValue107
 t76 := Tryd.underlying108
 a76 := Tryd.isAgg108
 z76 := Tryd.sizeOf108
 v76 := Tryd.zeroValue108
 t109 := Tryd.underlying114
 a109 := Tryd.isAgg114
 z109 := Tryd.sizeOf114
 v109 := Tryd.zeroValue114
 t127 := Tryd.underlying133
 a127 := Tryd.isAgg133
 z127 := Tryd.sizeOf133
 v127 := Tryd.zeroValue133
 t146 := Tryd.underlying134
 a146 := Tryd.isAgg134
 z146 := Tryd.sizeOf134
 v146 := Tryd.zeroValue134
 t148 := Tryd.underlying136
 a148 := Tryd.isAgg136
 z148 := Tryd.sizeOf136
 v148 := Tryd.zeroValue136
 t164 := Tryd.underlying145
 a164 := Tryd.isAgg145
 z164 := Tryd.sizeOf145
 v164 := Tryd.zeroValue145 }
theorem Builder_Extra_105 : Builder.Extra Tryd.prog lays105_ren := {
 sizeBuilder := by kernel_rfl
 liesBuilder := by kernel_rfl
 t5 := Tryd.underlying5
 a5 := Tryd.isAgg5
 z5 := Tryd.sizeOf5
 v5 := Tryd.zeroValue5
 infoByte := by kernel_rfl
 cellsByte := by kernel_rfl
 sizeByte := by kernel_rfl
 neB5 := by decide }
open Go.RowKit Go.Lib in
theorem repeat9 (s : ByteArray) (c : Nat) (w : World) (hc : c ≤ 9223372036854775807) (hlen : s.size * c ≤ 140737488355328) :
 Calls Tryd.prog 47 #[.string s, .int .i64 c] w fun e w' => e = .returned (.string ⟨(Lib.repeatL s.data.toList c).toArray⟩) ∧ Below w.heap.size w w' := Any.strings_Repeat lays105 Builder_Extra_105 s c w hc hlen
theorem write9 (B b : Nat) (bs : List Value) (s : ByteArray) (w : World) (h : Lib.IsBuilderF 105 5 B b bs w) (hlen : bs.length + s.size ≤ 140737488355328) (hBw : B ≤ w.heap.size) :
 Calls Tryd.prog 60 #[.pointer (some ⟨b, 0, none⟩), .string s] w fun e w' => e = .returned (.tuple #[.int .i64 s.size, .nilIface]) ∧ (Lib.BuilderAtF 105 5 B b (.pointer (some ⟨b, 0, none⟩)) (bs ++ Lib.byteCells s.data.toList) w' ∧ Below B w w' ∧ Lib.OthersKept 5 (some b) w w') :=
 Any.Builder_WriteString_k { lays105 with } Builder_Extra_105 B b bs s w h hlen hBw
theorem string9 (B b : Nat) (l : List UInt8) (w : World) (h : Lib.IsBuilderF 105 5 B b (Lib.byteCells l) w) (hBw : B ≤ w.heap.size) :
 Calls Tryd.prog 61 #[.pointer (some ⟨b, 0, none⟩)] w fun e w' => e = .returned (.string ⟨l.toArray⟩) ∧ Below B w w' := (Any.Builder_String_any_k { lays105 with } Builder_Extra_105 B b l w h hBw).mono fun _ _ h => ⟨h.1, h.2.2.1⟩
end Go.Proofs.YtnpfhcnjkekhbaaDoor
