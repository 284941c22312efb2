/-
  Arguments that are quantities: two texts and four integers. The package-level variables of layer 5's rows: what the rows list of them, read as the calls need it; worlds for the witnesses.
-/
import Derived.Test.YtcglcgphgahnpaaGreatDoorJ11
import Derived.Test.YtcglcgphgahnpaaGreatDoorJ26
import Derived.ChangeSame
set_option maxRecDepth 100000
set_option maxHeartbeats 16000000
namespace Go.Proofs.YtcglcgphgahnpaaGreatDoor
open Go Go.Proofs Go.ChangeShapes Go.WideShapes Go.ChangeAt Go.RowKit
theorem qty_under : Tryz.prog.underlying 27 = some (.struct #[{ name := "Value", type := 23, offset := 0, embedded := false, tag := "", pkgPath := "", byteOffset := 0 }, { name := "Unit", type := 25, offset := 2, embedded := false, tag := "", pkgPath := "", byteOffset := 32 }]) := by kernel_rfl
theorem unit_under : Tryz.prog.underlying 25 = some (.struct #[{ name := "Time", type := 3, offset := 0, embedded := false, tag := "", pkgPath := "", byteOffset := 0 }, { name := "Byte", type := 3, offset := 1, embedded := false, tag := "", pkgPath := "", byteOffset := 8 }, { name := "Money", type := 3, offset := 2, embedded := false, tag := "", pkgPath := "", byteOffset := 16 }, { name := "Count", type := 3, offset := 3, embedded := false, tag := "", pkgPath := "", byteOffset := 24 }]) := by kernel_rfl
theorem qty_cells : Tryz.prog.cellsOf 27 = 6 := by kernel_rfl
theorem ratio_cells : Tryz.prog.cellsOf 23 = 2 := by kernel_rfl
theorem unit_cells : Tryz.prog.cellsOf 25 = 4 := by kernel_rfl
theorem str_cells : Tryz.prog.cellsOf 9 = 1 := by kernel_rfl
section
variable {H : Type} {enc : TypeId × Value → H} {W : World} {base : Nat} {sp : Nat → Bool} {held : Bool}
theorem open_qty {r : Reach} {b0 : Nat} {v : Value} {d : DataW H} {ps : List MemPlace} (hval : Value.okWide Tryz.prog W r b0 27 v) (hd : DataW.Trod enc Tryz.prog W base sp held 27 v d ps) :
 ∃ (n e : ByteArray) (x y z u : Int), v = .agg #[.string n, .string e, .int .i64 x, .int .i64 y, .int .i64 z, .int .i64 u] ∧
  d = .agg [.agg [.lit (.string n.data.toList), .lit (.string e.data.toList)], .agg [.lit (.int .i64 x), .lit (.int .i64 y), .lit (.int .i64 z), .lit (.int .i64 u)]] ∧ ps = [] ∧
  n.size ≤ maxLen ∧ e.size ≤ maxLen ∧ (Lit.int .i64 x).wf = true ∧ (Lit.int .i64 y).wf = true ∧ (Lit.int .i64 z).wf = true ∧ (Lit.int .i64 u).wf = true := by
 simp only [Value.okWide, qty_under] at hval
 obtain ⟨cs, rfl, hsz, _⟩ := hval
 rw [qty_cells] at hsz
 obtain ⟨l⟩ := cs
 match l, hsz with
 | [c0, c1, c2, c3, c4, c5], _ =>
  obtain ⟨fuel, hf⟩ := hd
  simp only [Value.cells] at hf
  obtain ⟨y0, y1, m, hx, _, h0, h1⟩ := trod_struct2 qty_under hf
  simp only [ratio_cells, unit_cells] at h0 h1
  obtain ⟨z0, z1, m2, hx2, _, k0, k1⟩ := trod_struct2 ratio_under h0
  obtain ⟨i0, i1, i2, i3, m3, hx3, _, j0, j1, j2, j3⟩ := Joins.trod_struct4 unit_under h1
  simp [int_cells, str_cells] at k0 k1 j0 j1 j2 j3
  obtain ⟨s0, e0, rfl, l0⟩ := DataW.trod_string Tryz.underlying9 k0
  obtain ⟨s1, e1, rfl, l1⟩ := DataW.trod_string Tryz.underlying9 k1
  obtain ⟨a, ea, rfl, wa⟩ := DataW.trod_int Tryz.underlying3 j0
  obtain ⟨b, eb, rfl, wb⟩ := DataW.trod_int Tryz.underlying3 j1
  obtain ⟨c, ec, rfl, wc⟩ := DataW.trod_int Tryz.underlying3 j2
  obtain ⟨e, ee, rfl, we⟩ := DataW.trod_int Tryz.underlying3 j3
  simp at e0 e1 ea eb ec ee
  subst e0 e1 ea eb ec ee
  subst hx2 hx3
  simp only [Prod.mk.injEq] at hx
  exact ⟨s0, s1, a, b, c, e, rfl, by rw [hx.1], by rw [hx.2]; rfl, l0, l1, wa, wb, wc, we⟩
theorem shut_qty {n e : ByteArray} {x y z u : Int} (hn : n.size ≤ maxLen) (he : e.size ≤ maxLen) (wx : (Lit.int .i64 x).wf = true) (wy : (Lit.int .i64 y).wf = true) (wz : (Lit.int .i64 z).wf = true) (wu : (Lit.int .i64 u).wf = true) :
 DataW.Trod enc Tryz.prog W base sp held 27 (.agg #[.string n, .string e, .int .i64 x, .int .i64 y, .int .i64 z, .int .i64 u])
  (.agg [.agg [.lit (.string n.data.toList), .lit (.string e.data.toList)], .agg [.lit (.int .i64 x), .lit (.int .i64 y), .lit (.int .i64 z), .lit (.int .i64 u)]]) [] := by
 have h1 := trod_struct2_mk (enc := enc) (P := Tryz.prog) (w := W) (base := base) (spare := sp) (held := held) (n := 1) (cs := [.string n, .string e]) (y0 := (.lit (.string n.data.toList), [])) (y1 := (.lit (.string e.data.toList), [])) ratio_under (by rw [ratio_cells]; rfl)
  (by simp [str_cells, DataW.trod, Tryz.underlying9, hn]) (by simp [str_cells, DataW.trod, Tryz.underlying9, he])
 have h2 := Joins.trod_struct4_mk (enc := enc) (P := Tryz.prog) (w := W) (base := base) (spare := sp) (held := held) (n := 1) (cs := [.int .i64 x, .int .i64 y, .int .i64 z, .int .i64 u]) (y0 := (.lit (.int .i64 x), [])) (y1 := (.lit (.int .i64 y), [])) (y2 := (.lit (.int .i64 z), [])) (y3 := (.lit (.int .i64 u), [])) unit_under (by rw [unit_cells]; rfl)
  (by simp [int_cells, DataW.trod, Tryz.underlying3, wx]) (by simp [int_cells, DataW.trod, Tryz.underlying3, wy]) (by simp [int_cells, DataW.trod, Tryz.underlying3, wz]) (by simp [int_cells, DataW.trod, Tryz.underlying3, wu])
 have h3 := trod_struct2_mk (enc := enc) (P := Tryz.prog) (w := W) (base := base) (spare := sp) (held := held) (n := 2) (cs := [.string n, .string e, .int .i64 x, .int .i64 y, .int .i64 z, .int .i64 u]) qty_under (by rw [qty_cells]; rfl)
  (by simp only [ratio_cells]; exact h1) (by simp only [unit_cells]; exact h2)
 exact ⟨3, h3⟩
end
theorem gWords : Tryz.prog.globalNamed "latecomer/unit.words" = some 0 := by kernel_rfl
theorem gWordsType : (Tryz.prog.globals[(0 : Nat)]?).map (·.type) = some 82 := by kernel_rfl
theorem words_cells : Tryz.prog.cellsOf 82 = 4 := by kernel_rfl
theorem cells_of_strs {H : Type} {enc : TypeId × Value → H} {P : Program} {w : World} {base : Nat} {sp : Nat → Bool} {held : Bool} {fuel : Nat} {t e : TypeId} {n : Nat} {cs : List Value} {zs : List ByteArray} {p : List MemPlace}
 (ht : P.underlying t = some (.array n e)) (he : P.underlying e = some .string) (hce : P.cellsOf e = 1) (hct : P.cellsOf t = n)
 (h : DataW.trod enc P w base sp held fuel t cs = some (.agg (zs.map fun z => .lit (.string z.data.toList)), p)) : cs = zs.map fun z => Value.string z := by
 cases fuel with
 | zero => simp [DataW.trod] at h
 | succ fuel =>
  simp only [DataW.trod, ht, hce, hct, Nat.mul_one] at h
  split at h
  · rename_i hl
    obtain ⟨xs, hm, hx⟩ := Option.map_eq_some_iff.1 h
    have hxs : xs.map (·.1) = zs.map fun z => (DataW.lit (.string z.data.toList) : DataW H) := by
     have := congrArg Prod.fst hx
     simpa using this
    have hxl : xs.length = n := by simpa using Lib.mapM_length hm
    have hzl : zs.length = n := by
     have := congrArg List.length hxs
     simp at this
     omega
    apply List.ext_getElem?
    intro i
    by_cases hi : i < n
    · obtain ⟨b, hb, hf⟩ := Lib.mapM_at hm i i (by simp [hi])
      obtain ⟨s, hc, rfl, _⟩ := DataW.trod_string he hf
      have h1 : cs[i]? = some (.string s) := by
       have := congrArg (·[0]?) hc
       simpa [List.getElem?_take, List.getElem?_drop] using this
      have h2 : (xs.map (·.1))[i]? = some (DataW.lit (.string s.data.toList) : DataW H) := by simp [hb]
      rw [hxs] at h2
      simp only [List.getElem?_map, Option.map_eq_some_iff, DataW.lit.injEq, Lit.string.injEq] at h2
      obtain ⟨z', hz', hz2⟩ := h2
      have e : z' = s := ByteArray.ext (Array.toList_inj.1 hz2)
      subst e
      simp [h1, hz']
    rw [List.getElem?_eq_none (by omega), List.getElem?_eq_none (by simp; omega)]
  cases h
def wordsT : List ByteArray := [⟨#[117, 115]⟩, ⟨#[98, 121, 116, 101]⟩, ⟨#[99, 101, 110, 116]⟩, ⟨#[111, 110, 101]⟩]
theorem words_of_head {W : World} {rest : List (String × DataW Unit)} (h : laidMet Tryz.prog (("latecomer/unit.words", Rows.laid_latecomer_unit_words) :: rest) W) : WordsR W := by
 obtain ⟨ps, ⟨g', t', cs, fuel, p, q, hg', ht', hvar, hd, _, _⟩, _⟩ := h
 obtain rfl := Option.some.inj (gWords.symm.trans hg')
 obtain rfl := Option.some.inj (gWordsType.symm.trans ht')
 have hcs := cells_of_strs (zs := wordsT) Tryz.underlying82 Tryz.underlying9 str_cells words_cells hd
 intro i hi
 have e : i = 0 ∨ i = 1 ∨ i = 2 ∨ i = 3 := by omega
 have hb : ∀ i, i < 4 → wordB i = wordsT.getD i ⟨#[]⟩ := by decide +kernel
 have := World.var?_cell gWords hvar i
 rw [this, hb i hi]
 have hl : cs.toList = wordsT.map fun z => Value.string z := by simpa using hcs
 have h2 : cs[i]? = (wordsT.map fun z => Value.string z)[i]? := by rw [← hl, Array.getElem?_toList]
 rw [h2]
 rcases e with rfl | rfl | rfl | rfl <;> rfl
def laidU : List (String × DataW Unit) := [("math/bits.deBruijn32tab", Rows.laid_math_bits_deBruijn32tab), ("math/bits.deBruijn64tab", Rows.laid_math_bits_deBruijn64tab), ("internal/strconv.uint64pow10", Rows.laid_internal_strconv_uint64pow10), ("latecomer/unit.words", Rows.laid_latecomer_unit_words)]
theorem readyU {W : World} (h : laidMetH Tryz.prog laidU W) : Set5 W := by
 have h0 : laidMet Tryz.prog laidU W := h
 exact ⟨Lib.tabIs_of_head (rest := [("latecomer/unit.words", Rows.laid_latecomer_unit_words)]) gPow gPowType Tryz.underlying175 Tryz.underlying115 cells1 cells20 (laidMet.tail (laidMet.tail h0)), words_of_head (laidMet.tail (laidMet.tail (laidMet.tail h0)))⟩
noncomputable def worldU (os : Os) : World := World.laidAll Tryz.prog os laidU
theorem metU (os : Os) (args : Array Value) : laidMet Tryz.prog laidU ((worldU os).forCall (fun _ _ => 0) ⟨#[], args, []⟩).memory := laidMet_laidAll args (by kernel_rfl) (by kernel_rfl)
end Go.Proofs.YtcglcgphgahnpaaGreatDoor
