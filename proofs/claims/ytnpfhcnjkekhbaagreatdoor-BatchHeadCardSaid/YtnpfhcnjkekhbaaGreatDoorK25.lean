/-
  Layer 9, the reference: in, numbers, Encode. Layer 9, the reference: Encode. Layer 9, the reference: Chain. Layer 9, the reference: rows of texts; Chained: the strings whose digests make a chain. Layer 9, the reference's Collided: do two lists hold two different strings with one digest.
-/
import Derived.Test.YtnpfhcnjkekhbaaGreatDoorProg
import Derived.Test.YtnpfhcnjkekhbaaGreatDoorK21
import Derived.Test.YtnpfhcnjkekhbaaGreatDoorK24
import Derived.Shelf.Strings.BuilderK
import Derived.Shelf.Strings.Repeat
import Derived.Maps.Own
import Derived.Maps.OwnOps
import Derived.Laws.Rows
import Derived.Laws.OwnMore
import Derived.OwnWalk
import Derived.WalkKit
import Derived.WalkLawsBesides
import Derived.Outline
import Derived.Lib.Hide
import Derived.Below
import Derived.BigQuiet
import Derived.Deep.QuietTactic
import Derived.Deep.RegionHeld3
import Derived.Lib.QuietBelow
import Derived.Deep.DeepCutAuto
import Derived.StillTail
import Derived.Lib.Varint
import Derived.Lib.SlBytesRow
import Derived.Shelf.Abstract
import Derived.OwnWalkIn
import Derived.TacticsInMore
import Derived.LoopNIn
import Derived.LoopIn
import Derived.RangeFuncNested
import Derived.RangeFuncBound
import Derived.RangeFuncCalls
import Derived.RangeFuncLeaves
import Derived.RangeFuncBox
import Derived.Lib.ConvBytes
import Derived.DefersIn
import Derived.Laws.CopyOwn
import Derived.RegionTactic
import Derived.ChangeAlike
import Derived.Deep.RegionWith
import Derived.Deep.CutRange
import Derived.IntWalk
import Derived.Lib.EndianBits
import Derived.Lib.Strings
import Derived.ControlIn
import Derived.WalkMore
import Derived.Lib.SliceRun
import Derived.RangeFuncRecord
import Derived.Shelf.LaysM
import Derived.Shelf.Strconv.Clone
import Derived.Maps.AppendAt
import Derived.Deep.RegionLaw
import Derived.Laws.AppendOwn
set_option maxRecDepth 100000
set_option maxHeartbeats 16000000
namespace Go.Proofs.YtnpfhcnjkekhbaaGreatDoor
open Go Go.Proofs Go.RowKit Go.Lib Go.Maps
open W1 (encS refPut_yes)
def bytesL (l : List UInt8) : ByteArray := ⟨l.toArray⟩
theorem bytesL_app (l : List UInt8) (S : ByteArray) (q : List UInt8) (h : S.data.toList = q) : bytesL l ++ S = bytesL (l ++ q) := by
 subst h
 apply ByteArray.ext
 simp [bytesL, ByteArray.data_append]
theorem bytesL_size (l : List UInt8) : (bytesL l).size = l.length := by simp [bytesL, ByteArray.size]
theorem numbersR9_any (ad : Option Addr) (c : Nat) (l : List Int) (hl : l.length ≤ 100) (hfit : ∀ x ∈ l, FitI x) (w : World) (hI : RL KI w ad l) :
 Calls Tryz.prog 41 #[.slice ad l.length c] w fun e w' => e = .returned (.string (bytesL (encL l))) ∧ Below w.heap.size w w' := by
 have HC := Lib.hid (fun k hk => hI.int k hk)
 have HFT := Lib.hid hfit
 obtain ⟨P, hP⟩ : ∃ P : Nat → ByteArray, P = fun k => bytesL (encL (l.take k)) := ⟨_, rfl⟩
 obtain ⟨R, hR⟩ : ∃ R, R = bytesL (encL l) := ⟨_, rfl⟩
 have HP0 := Lib.hid (show P 0 = ⟨#[]⟩ from by rw [hP]; rfl)
 have HPN := Lib.hid (show P l.length = R from by rw [hP, hR]; simp only [List.take_length])
 have HPS := Lib.hid (show ∀ k (hk : k < l.length), P k ++ encS l[k] = P (k + 1) from by
  intro k hk
  rw [hP]
  show bytesL (encL (l.take k)) ++ encS l[k] = bytesL (encL (l.take (k + 1)))
  rw [List.take_succ_eq_append_getElem hk, encL_snoc, bytesL_app _ _ _ (encS_bytes _)])
 have HPZ := Lib.hid (show ∀ k, (P k).size ≤ 900 from by
  intro k
  rw [hP]
  show (bytesL (encL (l.take k))).size ≤ 900
  rw [bytesL_size]
  have := encL_le (l.take k) fun y hy => hfit y (List.mem_of_mem_take hy)
  rw [List.length_take] at this
  omega)
 rw [← hR]
 clear hI hfit hP hR
 go_enter Tryz.func41, Tryz.ntmps41
 go_wp2_with fail
 go_loopw [3, 4] (fun s i wr => ∃ k : Nat, i = .int .i64 k ∧ k ≤ l.length ∧ s = .string (P k) ∧ Hid (Below w.heap.size w wr)) (fun _ i _ => l.length - (RowKit.intOf i).toNat)
 case atStart => exact ⟨0, rfl, Nat.zero_le _, by rw [HP0.out], Lib.hid (Below.refl _ _)⟩
 case round =>
  obtain ⟨k, rfl, hk, rfl, HB⟩ := hrel
  by_cases hlt : k < l.length
  · have hki : (k : Int) < (l.length : Int) := by omega
    obtain ⟨xb, xo, rfl, _, hxc⟩ := HC.out k hlt
    have c0 := hxc wr HB.out
    have hik := fun W => at_int8 xb xo l.length c k hlt W
    have HFX := Lib.hid (HFT.out _ (List.getElem_mem hlt))
    have HST := Lib.hid (HPS.out k hlt)
    have HLT := Lib.hid hlt
    have hsz := HPZ.out k
    generalize l[k]'hlt = x at *
    obtain ⟨PN, hPN⟩ : ∃ PN, PN = P (k + 1) := ⟨_, rfl⟩
    rw [← hPN] at HST
    have HPN2 := Lib.hid hPN
    generalize P k = p at *
    have HPI := Lib.hid (fun W => refPut_yes x HFX.out.1 HFX.out.2 W)
    have hes : (encS x).size ≤ 9 := by rw [encS_size]; exact encI_le HFX.out
    generalize encS x = E at *
    clear hxc hlt hPN
    go_wp2_with fail
    refine (HPI.out _).mono ?_
    rintro e w1 ⟨rfl, h1⟩
    have HB1 := Lib.hid (below_up8 HB.out h1)
    clear h1 c0
    go_wp2_with fail
    go_roundw
    case rel => exact ⟨k + 1, by go_num, HLT.out, by rw [HST.out, HPN2.out], HB1⟩
    case measure => have := HLT.out; simp [RowKit.intOf]; omega
  · have hke : k = l.length := by omega
    have hki : ¬ (k : Int) < (l.length : Int) := by omega
    have HF := Lib.hid (show P k = R from by rw [hke]; exact HPN.out)
    rw [HF.out]
    clear hke hlt HF
    go_wp2_with fail
    go_ret
    exact ⟨rfl, HB.out⟩
end Go.Proofs.YtnpfhcnjkekhbaaGreatDoor

namespace Go.Proofs.YtnpfhcnjkekhbaaGreatDoor
open Go Go.Proofs Go.RowKit Go.Lib Go.Maps
theorem encodeR9_any (x : Ev) (w : World) :
 Calls Tryz.prog 9 #[x.val] w fun e w' => e = .returned (.tuple #[.string (encV x), .int .i64 (encN x)]) ∧ Below w.heap.size w w' := by
 obtain ⟨w1, V1, Z1, K1, B1⟩ := lay8 w x.cells 23
 have V1 := (show w.alloc (.cells #[.int .i64 x.ag, .int .i64 x.sq, .int .i64 x.tm, .int .i64 x.kd, .int .i64 x.tr, .int .i64 x.sp, .int .i64 x.lk, .int .i64 x.gn, .int .i64 x.op, .int .i64 x.vr, .int .i64 x.pe, .int .i64 x.bt] 23) = w1 from V1)
 obtain ⟨d0, d1, d2, d3, d4, d5, d6, d7, d8, d9, d10, d11⟩ := CellsAt.ev K1
 have HB := Lib.hid B1
 have HE := Lib.hid (eventR_any x w1)
 have KV := Lib.hid (fun W (b : Below w1.heap.size w1 W) => CellsAt.ev (CellsAt.below K1 b))
 have HN := Lib.hid (show ∀ (W W2 : World), evB x = true → W.alloc (.cells #[.int .i64 x.ag, .int .i64 x.sq, .int .i64 x.tm, .int .i64 x.kd, .int .i64 x.tr, .int .i64 x.sp, .int .i64 x.lk, .int .i64 x.gn, .int .i64 x.op, .int .i64 x.vr, .int .i64 x.pe, .int .i64 x.bt] 3) = W2 → CellsAt W2 W.heap.size (x.nums.map (Value.int .i64)) → W2.heap.size = W.heap.size + 1 → Calls Tryz.prog 41 #[.slice (some ⟨W.heap.size, 0, none⟩) 12 12] W2 (fun e w' => e = .returned (.string (encT x)) ∧ Below W2.heap.size W2 w') from fun W W2 h _ K2 hz => by
  have hr : RL KI W2 (some ⟨W.heap.size, 0, none⟩) x.nums := .inr ⟨W.heap.size, 0, rfl, by omega, fun i hi j hj => by
   have hj0 : j = 0 := by have : j < 1 := hj; omega
   subst hj0
   have h := (K2 i (by rw [List.length_map]; exact hi)).1
   rw [List.getElem_map] at h
   rw [show 0 + KI.n * i + 0 = i by show 0 + 1 * i + 0 = i; omega, h]
   rfl⟩
  have h0 := numbersR9_any (some ⟨W.heap.size, 0, none⟩) 12 x.nums (by rw [nums_len]; omega) (nums_fit h) W2 hr
  rw [nums_len, show bytesL (encL x.nums) = encT x by unfold bytesL encT encE; rfl] at h0
  exact h0)
 have HL := Lib.hid (fun W => lay8 W (x.nums.map (Value.int .i64)) 3)
 rw [Ev.val_mk] at HE ⊢
 obtain ⟨S, hS⟩ : ∃ S, encV x = S := ⟨_, rfl⟩
 obtain ⟨C, hC⟩ : ∃ C, encN x = C := ⟨_, rfl⟩
 rw [hS, hC]
 have HS := Lib.hid hS
 have HCC := Lib.hid hC
 clear K1 B1 Z1 hS hC
 cases hv : evB x with
 | true =>
  have HSV := Lib.hid (show S = encT x from by rw [← HS.out]; unfold encV; rw [if_pos hv])
  have HCV := Lib.hid (show C = 0 from by rw [← HCC.out]; unfold encN; rw [if_pos hv])
  have HN := Lib.hid (fun W W2 e K2 hz => HN.out W W2 hv e K2 hz)
  rw [hv] at HE
  rw [← HSV.out] at HN
  clear hv
  go_enter Tryz.func9, Tryz.ntmps9
  go_wp2_with fail
  refine HE.out.mono ?_
  rintro e z ⟨rfl, hz⟩
  have HZ := Lib.hid hz
  clear hz V1 d0 d1 d2 d3 d4 d5 d6 d7 d8 d9 d10 d11
  obtain ⟨d0, d1, d2, d3, d4, d5, d6, d7, d8, d9, d10, d11⟩ := KV.out z HZ.out
  obtain ⟨w2, V2, Z2, K2, B2⟩ := HL.out z
  have V2 := (show z.alloc (.cells #[.int .i64 x.ag, .int .i64 x.sq, .int .i64 x.tm, .int .i64 x.kd, .int .i64 x.tr, .int .i64 x.sp, .int .i64 x.lk, .int .i64 x.gn, .int .i64 x.op, .int .i64 x.vr, .int .i64 x.pe, .int .i64 x.bt] 3) = w2 from V2)
  have HN2 := Lib.hid (HN.out z w2 V2 K2 Z2)
  have HB2 := Lib.hid (below_up8 HB.out (below_up8 HZ.out B2))
  clear K2 B2 Z2
  go_wp2_with fail
  refine HN2.out.mono ?_
  rintro e w3 ⟨rfl, h3⟩
  have HB3 := Lib.hid (below_up8 HB2.out h3)
  clear h3 V2 d0 d1 d2 d3 d4 d5 d6 d7 d8 d9 d10 d11
  go_wp2_with fail
  go_ret2
  exact ⟨by rw [HCV.out]; rfl, HB3.out⟩
 | false =>
  have HSV := Lib.hid (show S = ByteArray.empty from by rw [← HS.out]; unfold encV; rw [if_neg (by rw [hv]; decide)])
  have HCV := Lib.hid (show C = 90 from by rw [← HCC.out]; unfold encN; rw [if_neg (by rw [hv]; decide)])
  rw [hv] at HE
  clear hv
  go_enter Tryz.func9, Tryz.ntmps9
  go_wp2_with fail
  refine HE.out.mono ?_
  rintro e z ⟨rfl, hz⟩
  have HZ := Lib.hid (below_up8 HB.out hz)
  clear hz V1 d0 d1 d2 d3 d4 d5 d6 d7 d8 d9 d10 d11
  go_wp2_with fail
  go_ret2
  exact ⟨by rw [HCV.out, HSV.out]; rfl, HZ.out⟩
end Go.Proofs.YtnpfhcnjkekhbaaGreatDoor

namespace Go.Proofs.YtnpfhcnjkekhbaaGreatDoor
open Go Go.Proofs Go.RowKit Go.Lib Go.Maps
theorem chainV_yes {h : ByteArray} {l : List Ev} (hs : h.size = 32) (hv : ∀ x ∈ l, evB x = true) : chainV h l = chH chainF h l ∧ chainN h l = 0 := by
 unfold chainV chainN
 have e : h.size = 32 ∧ l.all evB = true := ⟨hs, List.all_eq_true.2 hv⟩
 rw [if_pos e, if_pos e]
 exact ⟨rfl, rfl⟩
theorem chainV_no {h : ByteArray} {l : List Ev} (hn : ¬ (h.size = 32 ∧ l.all evB = true)) : chainV h l = ByteArray.empty ∧ chainN h l = 90 := by
 unfold chainV chainN
 rw [if_neg hn, if_neg hn]
 exact ⟨rfl, rfl⟩
theorem chainR9_any (h : ByteArray) (ad : Option Addr) (c : Nat) (l : List Ev) (hl : l.length ≤ maxLen) (w : World) (hI : RL KE w ad l) :
 Calls Tryz.prog 18 #[.string h, .slice ad l.length c] w fun e w' => e = .returned (.tuple #[.string (chainV h l), .int .i64 (chainN h l)]) ∧ Below w.heap.size w w' := by
 unfold maxLen at hl
 have HC := Lib.hid (fun k hk => hI.ev k hk)
 obtain ⟨S, hS⟩ : ∃ S, chainV h l = S := ⟨_, rfl⟩
 obtain ⟨C, hC⟩ : ∃ C, chainN h l = C := ⟨_, rfl⟩
 rw [hS, hC]
 have HSC := Lib.hid (And.intro hS hC)
 clear hS hC hI
 by_cases h32 : h.size = 32
 · have h32i : (h.size : Int) = 32 := by omega
   have H32 := Lib.hid h32
   obtain ⟨P, hP⟩ : ∃ P : Nat → ByteArray, P = fun k => chH chainF h (l.take k) := ⟨_, rfl⟩
   have HTK := Lib.hid (show ∀ k (hk : k < l.length), P (k + 1) = chainF (P k) (encT l[k]) from by rw [hP]; exact fun k hk => chH_take hk)
   have HLE := Lib.hid (show ∀ k, (P k).size ≤ 1000000 from by rw [hP]; exact fun k => chH_le (by omega) (l.take k))
   have HP0 := Lib.hid (show h = P 0 from by rw [hP]; rfl)
   have HPE := Lib.hid (show P l.length = chH chainF h l from by rw [hP]; simp only [List.take_length])
   clear hP h32
   go_enter Tryz.func18, Tryz.ntmps18
   go_wp2_with fail
   clear h32i
   go_loopw [0, 6] (fun s i wr => ∃ k : Nat, i = .int .i64 k ∧ k ≤ l.length ∧ s = .string (P k) ∧ Hid (∀ j (hj : j < l.length), j < k → evB l[j] = true) ∧ Hid (Below w.heap.size w wr)) (fun _ i _ => l.length - (RowKit.intOf i).toNat)
   case atStart => exact ⟨0, rfl, Nat.zero_le _, by rw [← HP0.out], Lib.hid (fun j _ hj => by omega), Lib.hid (Below.refl _ _)⟩
   case round =>
    obtain ⟨k, rfl, hk, rfl, HV, HB⟩ := hrel
    by_cases hlt : k < l.length
    · have hki : (k : Int) < (l.length : Int) := by omega
      obtain ⟨xb, xo, rfl, _, hxc⟩ := HC.out k hlt
      obtain ⟨d0, d1, d2, d3, d4, d5, d6, d7, d8, d9, d10, d11⟩ := hxc wr HB.out
      have hik := fun W => at_ev8 xb xo l.length c k hlt W
      have hwk : IntKind.i64.wrap ((k : Int) + 1) = (k : Int) + 1 := IntWalk.i64_in _ (by omega)
      have HLT := Lib.hid hlt
      have HT := Lib.hid (HTK.out k hlt)
      have HLP := Lib.hid (HLE.out k)
      have HNX := Lib.hid (fun (e : evB l[k] = true) => show ∀ j (hj : j < l.length), j < k + 1 → evB l[j] = true from fun j hj h9 => by
       rcases Nat.lt_or_ge j k with h | h
       · exact HV.out j hj h
       · obtain rfl : j = k := by omega
         exact e)
      have HNO := Lib.hid (fun (e : ¬ evB l[k] = true) => show S = ByteArray.empty ∧ C = 90 from by
       have := chainV_no (h := h) (l := l) fun h9 => e (List.all_eq_true.1 h9.2 _ (List.getElem_mem hlt))
       rw [HSC.out.1, HSC.out.2] at this
       exact this)
      generalize l[k]'hlt = x at *
      obtain ⟨PN, hPN⟩ : ∃ PN, PN = P (k + 1) := ⟨_, rfl⟩
      rw [← hPN] at HT
      have HPN := Lib.hid hPN
      generalize P k = p at *
      have HE := Lib.hid (fun W => encodeR9_any x W)
      rw [Ev.val_mk] at HE
      clear hxc hlt hPN
      cases hv : evB x with
      | true =>
       have HNX := Lib.hid (HNX.out hv)
       have hez := encT_size hv
       have e1 : encV x = encT x := by unfold encV; rw [if_pos hv]
       have e2 : encN x = 0 := by unfold encN; rw [if_pos hv]
       rw [e1, e2] at HE
       have HCH := Lib.hid (fun W => chainR_any p (encT x) HLP.out (by omega) W)
       rw [← HT.out] at HCH
       clear hez e1 e2 hv HNO
       generalize encT x = X at *
       go_wp2_with fail
       refine (HE.out _).mono ?_
       rintro e z ⟨rfl, hz⟩
       have HZ := Lib.hid (below_up8 HB.out hz)
       clear hz d0 d1 d2 d3 d4 d5 d6 d7 d8 d9 d10 d11
       go_wp2_with fail
       refine (HCH.out _).mono ?_
       rintro e z2 ⟨rfl, hz⟩
       have HZ2 := Lib.hid (below_up8 HZ.out hz)
       clear hz
       go_wp2_with fail
       go_roundw
       case rel => exact ⟨k + 1, by go_num, HLT.out, by rw [← HPN.out], HNX, HZ2⟩
       case measure => have := HLT.out; simp [RowKit.intOf]; omega
      | false =>
       have HNO := Lib.hid (HNO.out (by rw [hv]; decide))
       have e1 : encV x = ByteArray.empty := by unfold encV; rw [if_neg (by rw [hv]; decide)]
       have e2 : encN x = 90 := by unfold encN; rw [if_neg (by rw [hv]; decide)]
       rw [e1, e2] at HE
       clear e1 e2 hv HNX
       go_wp2_with fail
       refine (HE.out _).mono ?_
       rintro e z ⟨rfl, hz⟩
       have HZ := Lib.hid (below_up8 HB.out hz)
       clear hz d0 d1 d2 d3 d4 d5 d6 d7 d8 d9 d10 d11
       go_wp2_with fail
       go_ret2
       exact ⟨by rw [HNO.out.1, HNO.out.2]; rfl, HZ.out⟩
    · have hke : k = l.length := by omega
      have hki : ¬ (k : Int) < (l.length : Int) := by omega
      have HF := Lib.hid (show P k = S ∧ C = 0 from by
       have := chainV_yes (h := h) (l := l) H32.out fun x hx => by
        obtain ⟨j, hj, rfl⟩ := List.getElem_of_mem hx
        exact HV.out j hj (by omega)
       rw [HSC.out.1, HSC.out.2] at this
       exact ⟨by rw [hke, HPE.out, this.1], this.2⟩)
      rw [HF.out.1]
      clear hke hlt
      go_wp2_with fail
      go_ret2
      exact ⟨by rw [HF.out.2]; rfl, HB.out⟩
 · have h32i : ¬ (h.size : Int) = 32 := by omega
   have HNO := Lib.hid (show S = ByteArray.empty ∧ C = 90 from by
    have := chainV_no (h := h) (l := l) fun h9 => h32 h9.1
    rw [HSC.out.1, HSC.out.2] at this
    exact this)
   clear h32
   go_enter Tryz.func18, Tryz.ntmps18
   go_wp2_with fail
   go_ret2
   exact ⟨by rw [HNO.out.1, HNO.out.2]; rfl, Below.refl _ _⟩
end Go.Proofs.YtnpfhcnjkekhbaaGreatDoor

namespace Go.Proofs.YtnpfhcnjkekhbaaGreatDoor
open Go Go.Proofs Go.RowKit Go.Lib Go.Maps
def KT9 : RowK ByteArray where
 n := 1
 bytes := 16
 et := 9
 st := 33
 zero := .string .empty
 cs := fun s => [.string s]
 len := fun _ => rfl
 one := fun x u hu => by
  simp only [List.mem_cons, List.not_mem_nil, or_false] at hu
  subst hu
  rfl
 pos := by decide
 bb := by decide
 und := by kernel_rfl
 elem := by kernel_rfl
 info := by kernel_rfl
 zs := rfl
theorem at_t9 (g o n c k : Nat) (hk : k < n) (w : World) : (Instr.indexAt 33 (.slice (some ⟨g, o, none⟩) n c) (.int .i64 (k : Int))).run Tryz.prog w = .ok (.pointer (some ⟨g, o + k, none⟩)) w := by
 have := KT9.at_ g o n c k hk w
 rw [show o + KT9.n * k = o + k by show o + 1 * k = _; omega] at this
 exact this
theorem RL.t9 {W : World} {ad : Option Addr} {l : List ByteArray} (h : RL KT9 W ad l) (k : Nat) (hk : k < l.length) : ∃ b o, ad = some ⟨b, o, none⟩ ∧ b < W.heap.size ∧ ∀ W', Below W.heap.size W W' → W'.cell? ⟨b, o + k, none⟩ = some (.string l[k]) := by
 obtain ⟨b, o, h1, h2, h3⟩ := h.at_ k hk
 refine ⟨b, o, h1, h2, fun W' hb => ?_⟩
 have := h3 W' hb 0 (by decide)
 rw [show o + KT9.n * k + 0 = o + k by show o + 1 * k + 0 = _; omega] at this
 exact this
def TsPost (w : World) (l : List ByteArray) (e : Ending) (w' : World) : Prop := ∃ ad c, e = .returned (.slice ad l.length c) ∧ l.length ≤ c ∧ (ad = none → c = 0) ∧ RN KT9 w' w.heap.size ad l ∧ Below w.heap.size w w'
theorem Own.ts9 {w W : World} {n c : Nat} {ad : Option Addr} {l : List ByteArray} (hb : Below w.heap.size w W) (h : Own KT9 W w.heap.size (.slice ad n c) l) : TsPost w l (.returned (.slice ad n c)) W := by
 obtain ⟨ad2, c2, e, hc, hr⟩ := h.rn
 injection e with e1 e2 e3
 subst e1 e2 e3
 refine ⟨ad, c, rfl, hc, fun hn => ?_, hr, hb⟩
 subst hn
 rcases h.2 with ⟨hv, _⟩ | ⟨g, cap, cur, hv, _⟩
 · injection hv
 · injection hv with e1; cases e1
theorem chainedR9_any (h : ByteArray) (hs : h.size = 32) (ad : Option Addr) (c : Nat) (l : List Ev) (hl : l.length ≤ 1000) (hlc : l.length ≤ c) (hv : ∀ x ∈ l, evB x = true) (w : World) (hI : RL KE w ad l) :
 Calls Tryz.prog 36 #[.string h, .slice ad l.length c] w (TsPost w (chsL h l)) := by
 have HC := Lib.hid (fun k hk => hI.ev k hk)
 obtain ⟨P, hP⟩ : ∃ P : Nat → ByteArray, P = fun k => chH chainF h (l.take k) := ⟨_, rfl⟩
 obtain ⟨L, hL⟩ : ∃ L : Nat → List ByteArray, L = chsK h l := ⟨_, rfl⟩
 have HL0 := Lib.hid (show L 0 = [] from by rw [hL]; rfl)
 have HLL := Lib.hid (show ∀ k, (L k).length = k from by rw [hL]; exact chsK_len h l)
 have HLE := Lib.hid (show L l.length = chsL h l from by rw [hL]; rfl)
 have HLS := Lib.hid (show ∀ k (hk : k < l.length), L (k + 1) = L k ++ [(⟨#[2]⟩ ++ P k) ++ encT l[k]] from by
  intro k hk
  rw [hL, chsK_step, hP, tagged_app]
  unfold chs9
  rw [evD_of hk])
 have HPZ := Lib.hid (show ∀ k, (P k).size ≤ 1000000 from by rw [hP]; exact fun k => chH_le (by omega) (l.take k))
 have HVX := Lib.hid (show ∀ k (hk : k < l.length), evB l[k] = true from fun k hk => hv _ (List.getElem_mem hk))
 have HCH := Lib.hid (show ∀ k, k ≤ l.length → ∀ W, Below w.heap.size w W → Calls Tryz.prog 18 #[.string h, .slice ad k c] W fun e w' => e = .returned (.tuple #[.string (P k), .int .i64 0]) ∧ Below W.heap.size W w' from by
  intro k hk W hb
  have hk2 : (l.take k).length = k := by rw [List.length_take]; omega
  have := chainR9_any h ad c (l.take k) (by unfold maxLen; omega) W ((hI.below hb).take8 k)
  obtain ⟨e1, e2⟩ := chainV_yes (h := h) (l := l.take k) hs fun x hx => hv x (List.mem_of_mem_take hx)
  rw [hk2, e1, e2] at this
  rw [hP]
  exact this)
 rw [← HLE.out]
 have HLN := Lib.hid (HLL.out l.length)
 clear hI hv hs hP hL
 go_enter Tryz.func36, Tryz.ntmps36
 go_wp2_with fail
 go_loopw [5, 6] (fun v i wr => ∃ k : Nat, i = .int .i64 k ∧ k ≤ l.length ∧ ∃ yad yc, v = .slice yad k yc ∧ Hid (Own KT9 wr w.heap.size (.slice yad k yc) (L k)) ∧ Hid (Below w.heap.size w wr)) (fun _ i _ => l.length - (RowKit.intOf i).toNat)
 case atStart => exact ⟨0, rfl, Nat.zero_le _, none, 0, rfl, Lib.hid (by rw [HL0.out]; exact Own.nil _ _ _), Lib.hid (Below.refl _ _)⟩
 case round =>
  obtain ⟨k, rfl, hk, yad, yc, rfl, HO, HB⟩ := hrel
  by_cases hlt : k < l.length
  · have hki : (k : Int) < (l.length : Int) := by omega
    have hwk : IntKind.i64.wrap ((k : Int) + 1) = (k : Int) + 1 := IntWalk.i64_in _ (by omega)
    have hsl := fun W => KE.to8 ad l.length c k (by omega) W
    have HCK := Lib.hid (HCH.out k (by omega) wr HB.out)
    have HKL := Lib.hid (fun W (b : Below w.heap.size w W) => (HC.out k hlt))
    obtain ⟨xb, xo, rfl, _, hxc⟩ := HC.out k hlt
    have HXC := Lib.hid (fun W (b : Below w.heap.size w W) => hxc W b)
    have hik := fun W => at_ev8 xb xo l.length c k hlt W
    have HLT := Lib.hid hlt
    have HVK := Lib.hid (HVX.out k hlt)
    have HST := Lib.hid (HLS.out k hlt)
    have HPK := Lib.hid (HPZ.out k)
    have hsl := (fun W => show (Instr.slice 24 (.slice (some ⟨xb, xo, none⟩) l.length c) none (some (.int .i64 (k : Int))) none).run Tryz.prog W = .ok (.slice (some ⟨xb, xo, none⟩) k c) W from hsl W)
    generalize l[k]'hlt = x at *
    generalize P k = p at *
    have HE := Lib.hid (fun W => encodeR9_any x W)
    have e1 : encV x = encT x := by unfold encV; rw [if_pos HVK.out]
    have e2 : encN x = 0 := by unfold encN; rw [if_pos HVK.out]
    rw [Ev.val_mk, e1, e2] at HE
    have hez := encT_size HVK.out
    have hpz := HPK.out
    generalize encT x = X at *
    clear hxc hlt hk e1 e2 HKL
    go_wp2_with fail
    refine HCK.out.mono ?_
    rintro e z ⟨rfl, hz⟩
    have HZ := Lib.hid (below_up8 HB.out hz)
    have HZr := Lib.hid hz
    clear hz
    obtain ⟨d0, d1, d2, d3, d4, d5, d6, d7, d8, d9, d10, d11⟩ := HXC.out z HZ.out
    go_wp2_with fail
    refine (HE.out _).mono ?_
    rintro e z2 ⟨rfl, hz⟩
    have HZ2 := Lib.hid (below_up8 HZ.out hz)
    have HZ2r := Lib.hid (below_up8 HZr.out hz)
    clear hz d0 d1 d2 d3 d4 d5 d6 d7 d8 d9 d10 d11
    obtain ⟨S, hS⟩ : ∃ S, (⟨#[2]⟩ ++ p) ++ X = S := ⟨_, rfl⟩
    rw [hS] at HST
    obtain ⟨wB, VB, ZB, KB, BB⟩ := lay8 z2 [.string S] 9
    have VB := (show z2.alloc (.cells #[.string S] 9) = wB from VB)
    have KB := Lib.hid (show CellsAt wB z2.heap.size (KT9.cs S) from KB)
    have BB := Lib.hid BB
    have hz5 : w.heap.size ≤ z2.heap.size := HZ2.out.size
    have HLN2 := Lib.hid (show (L k).length + 1 ≤ 100000000 from by rw [HLL.out]; have := HLT.out; omega)
    have HO2 := Lib.hid ((HO.out.below HZ2r.out (Nat.le_refl _)).below BB.out (Nat.le_refl _))
    go_wp2_with (at_builtin; refine walk_push8 KT9 (w0 := wB) rfl _ _ rfl w.heap.size (.slice yad k yc) (L k) S rfl HO2.out (Below.refl _ _) (by omega) _ 1 rfl KB.out HLN2.out ?_; intro v9 w9 ho9 hb9 hg9 hk9)
    have HB9 := Lib.hid (show Below w.heap.size w w9 from (HZ2.out.trans (BB.out.mono hz5)).trans hb9)
    obtain ⟨yad9, yc9, e9, _⟩ := ho9.form
    have hl9 : (L k ++ [S]).length = k + 1 := by rw [List.length_append, HLL.out]; rfl
    rw [hl9] at e9
    subst e9
    have HO9 := Lib.hid ho9
    clear ho9 hb9 hg9 hk9 VB hS
    go_roundw
    case rel => exact ⟨k + 1, by go_num, HLT.out, yad9, yc9, rfl, Lib.hid (by rw [HST.out]; exact HO9.out), HB9⟩
    case measure => have h9 := HLT.out; simp [RowKit.intOf]; omega
  · have hke : k = l.length := by omega
    subst hke
    have hki : ¬ (l.length : Int) < (l.length : Int) := by omega
    clear hlt hk
    go_wp2_with fail
    go_ret
    have h := Own.ts9 HB.out HO.out
    exact h
end Go.Proofs.YtnpfhcnjkekhbaaGreatDoor

namespace Go.Proofs.YtnpfhcnjkekhbaaGreatDoor
open Go Go.Proofs Go.RowKit Go.Lib Go.Maps
theorem coll_same9 (x : ByteArray) : coll9 x x = false := by unfold coll9; simp
theorem coll_ne9 {x y : ByteArray} (h : ¬ x = y) : coll9 x y = decide (sha x = sha y) := by unfold coll9; rw [decide_eq_true h, Bool.true_and]
theorem colD_no {a b : List ByteArray} (h : ∀ i (hi : i < a.length) j (hj : j < b.length), coll9 a[i] b[j] = false) : colD a b = false := by
 unfold colD
 rw [List.any_eq_false]
 intro x hx
 rw [Bool.not_eq_true, List.any_eq_false]
 intro y hy
 obtain ⟨i, hi, rfl⟩ := List.getElem_of_mem hx
 obtain ⟨j, hj, rfl⟩ := List.getElem_of_mem hy
 rw [h i hi j hj]
 decide
theorem colD_at {a b : List ByteArray} {i j : Nat} (hi : i < a.length) (hj : j < b.length) (h : coll9 a[i] b[j] = true) : colD a b = true := by
 unfold coll9 at h
 rw [Bool.and_eq_true, decide_eq_true_eq, decide_eq_true_eq] at h
 exact colD_yes (List.getElem_mem hi) (List.getElem_mem hj) h.1 h.2
theorem collidedR9_any (a b : List ByteArray) (ad1 ad2 : Option Addr) (c1 c2 : Nat) (hl1 : a.length ≤ 1000000) (hl2 : b.length ≤ 1000000) (hs1 : ∀ x ∈ a, x.size ≤ 1099511627776) (hs2 : ∀ x ∈ b, x.size ≤ 1099511627776) (w : World) (h1 : RL KT9 w ad1 a) (h2 : RL KT9 w ad2 b) :
 Calls Tryz.prog 35 #[.slice ad1 a.length c1, .slice ad2 b.length c2] w fun e w' => e = .returned (.bool (colD a b)) ∧ Below w.heap.size w w' := by
 have HA := Lib.hid (fun k hk => h1.t9 k hk)
 have HBB := Lib.hid (fun k hk => h2.t9 k hk)
 have HSA := Lib.hid (fun k (hk : k < a.length) W => sumR_any a[k] (hs1 _ (List.getElem_mem hk)) W)
 have HSB := Lib.hid (fun k (hk : k < b.length) W => sumR_any b[k] (hs2 _ (List.getElem_mem hk)) W)
 obtain ⟨R, hR⟩ : ∃ R, colD a b = R := ⟨_, rfl⟩
 have HNO := Lib.hid (fun (h : ∀ i (hi : i < a.length) j (hj : j < b.length), coll9 a[i] b[j] = false) => show R = false from hR ▸ colD_no h)
 have HYES := Lib.hid (fun i (hi : i < a.length) j (hj : j < b.length) (h : coll9 a[i] b[j] = true) => show R = true from hR ▸ colD_at hi hj h)
 rw [hR]
 obtain ⟨M, hM⟩ : ∃ M : Nat → List ByteArray, M = fun k => (b.take k).map sha := ⟨_, rfl⟩
 have HM0 := Lib.hid (show M 0 = [] from by rw [hM]; rfl)
 have HML := Lib.hid (show ∀ k, k ≤ b.length → (M k).length = k from by rw [hM]; intro k hk; simp; omega)
 have HMS := Lib.hid (show ∀ k (hk : k < b.length), M (k + 1) = M k ++ [sha b[k]] from by
  rw [hM]
  intro k hk
  show (b.take (k + 1)).map sha = (b.take k).map sha ++ [sha b[k]]
  rw [List.take_succ_eq_append_getElem hk, List.map_append]
  rfl)
 have HME := Lib.hid (show ∀ k (hk : k < b.length) (h9 : k < (M b.length).length), (M b.length)[k] = sha b[k] from by
  rw [hM]
  intro k hk h9
  simp)
 clear hR hM h1 h2 hs1 hs2
 go_enter Tryz.func35, Tryz.ntmps35
 go_wp2_with fail
 go_loopw [5, 6] (fun v i wr => ∃ k : Nat, i = .int .i64 k ∧ k ≤ b.length ∧ ∃ yad yc, v = .slice yad k yc ∧ Hid (Own KT9 wr w.heap.size (.slice yad k yc) (M k)) ∧ Hid (Below w.heap.size w wr)) (fun _ i _ => b.length - (RowKit.intOf i).toNat)
 case atStart => exact ⟨0, rfl, Nat.zero_le _, none, 0, rfl, Lib.hid (by rw [HM0.out]; exact Own.nil _ _ _), Lib.hid (Below.refl _ _)⟩
 case round =>
  obtain ⟨k, rfl, hk, yad, yc, rfl, HO, HB⟩ := hrel
  by_cases hlt : k < b.length
  · have hki : (k : Int) < (b.length : Int) := by omega
    have hwk : IntKind.i64.wrap ((k : Int) + 1) = (k : Int) + 1 := IntWalk.i64_in _ (by omega)
    obtain ⟨xb, xo, rfl, _, hxc⟩ := HBB.out k hlt
    have c0 := hxc wr HB.out
    have hik := fun W => at_t9 xb xo b.length c2 k hlt W
    have HLT := Lib.hid hlt
    have HST := Lib.hid (HMS.out k hlt)
    have HSK := Lib.hid (HSB.out k hlt)
    have HLN2 := Lib.hid (show (M k).length + 1 ≤ 100000000 from by rw [HML.out k hk]; omega)
    have hl9 : (M k).length = k := HML.out k hk
    have HL9 := Lib.hid hl9
    generalize b[k]'hlt = x at *
    generalize sha x = S at *
    clear hxc hlt hk hl9
    go_wp2_with fail
    refine (HSK.out _).mono ?_
    rintro e z2 ⟨rfl, hz⟩
    have HZ2 := Lib.hid (below_up8 HB.out hz)
    have HZ2r := Lib.hid hz
    clear hz c0
    obtain ⟨wB, VB, ZB, KB, BB⟩ := lay8 z2 [.string S] 9
    have VB := (show z2.alloc (.cells #[.string S] 9) = wB from VB)
    have KB := Lib.hid (show CellsAt wB z2.heap.size (KT9.cs S) from KB)
    have BB := Lib.hid BB
    have hz5 : w.heap.size ≤ z2.heap.size := HZ2.out.size
    have HO2 := Lib.hid ((HO.out.below HZ2r.out (Nat.le_refl _)).below BB.out (Nat.le_refl _))
    go_wp2_with (at_builtin; refine walk_push8 KT9 (w0 := wB) rfl _ _ rfl w.heap.size (.slice yad k yc) (M k) S rfl HO2.out (Below.refl _ _) (by omega) _ 1 rfl KB.out HLN2.out ?_; intro v9 w9 ho9 hb9 hg9 hk9)
    have HB9 := Lib.hid (show Below w.heap.size w w9 from (HZ2.out.trans (BB.out.mono hz5)).trans hb9)
    obtain ⟨yad9, yc9, e9, _⟩ := ho9.form
    have hl9 : (M k ++ [S]).length = k + 1 := by rw [List.length_append, HL9.out]; rfl
    rw [hl9] at e9
    subst e9
    have HO9 := Lib.hid ho9
    clear ho9 hb9 hg9 hk9 VB hl9
    go_roundw
    case rel => exact ⟨k + 1, by go_num, HLT.out, yad9, yc9, rfl, Lib.hid (by rw [HST.out]; exact HO9.out), HB9⟩
    case measure => have h9 := HLT.out; simp [RowKit.intOf]; omega
  · have hke : k = b.length := by omega
    subst hke
    have hki : ¬ (b.length : Int) < (b.length : Int) := by omega
    generalize wr = wp at *
    have HRL := Lib.hid (fun W (bw : Below wp.heap.size wp W) => (rl_own8 HO.out).below bw)
    have HMN := Lib.hid (HML.out b.length (Nat.le_refl _))
    clear hlt hk HMS HSB HM0
    go_wp2_with fail
    go_loopw [7] (fun i wi => ∃ k : Nat, i = .int .i64 k ∧ k ≤ a.length ∧ Hid (∀ i (hi : i < a.length), i < k → ∀ j (hj : j < b.length), coll9 a[i] b[j] = false) ∧ Hid (Below wp.heap.size wp wi)) (fun i _ => a.length - (RowKit.intOf i).toNat)
    case atStart => exact ⟨0, rfl, Nat.zero_le _, Lib.hid (fun i _ h => by omega), Lib.hid (Below.refl _ _)⟩
    case round =>
     obtain ⟨k, rfl, hk, HN, HQ⟩ := hrel
     generalize wr = wi at *
     by_cases hlt : k < a.length
     · have hki : (k : Int) < (a.length : Int) := by omega
       have hwk : IntKind.i64.wrap ((k : Int) + 1) = (k : Int) + 1 := IntWalk.i64_in _ (by omega)
       obtain ⟨xb, xo, rfl, _, hxc⟩ := HA.out k hlt
       have c0 := hxc wi (below_up8 HB.out HQ.out)
       have HXC := Lib.hid (fun W (bw : Below wp.heap.size wp W) => hxc W (below_up8 HB.out bw))
       have hik := fun W => at_t9 xb xo a.length c1 k hlt W
       have HLT := Lib.hid hlt
       have HSK := Lib.hid (HSA.out k hlt)
       have HYK := Lib.hid (fun j hj h => HYES.out k hlt j hj h)
       have HNN := Lib.hid (fun (h : ∀ j (hj : j < b.length), coll9 a[k] b[j] = false) => show ∀ i (hi : i < a.length), i < k + 1 → ∀ j (hj : j < b.length), coll9 a[i] b[j] = false from fun i hi h9 => by
        rcases Nat.lt_or_ge i k with h3 | h3
        · exact HN.out i hi h3
        · obtain rfl : i = k := by omega
          exact h)
       generalize a[k]'hlt = x at *
       clear hxc hlt hk
       go_wp2_with fail
       refine (HSK.out _).mono ?_
       rintro e z ⟨rfl, hz⟩
       have HZ := Lib.hid (below_up8 HQ.out hz)
       clear hz c0
       go_wp2_with fail
       go_loopw [9] (fun i wj => ∃ q : Nat, i = .int .i64 q ∧ q ≤ b.length ∧ Hid (∀ j (hj : j < b.length), j < q → coll9 x b[j] = false) ∧ Hid (Below wp.heap.size wp wj)) (fun i _ => b.length - (RowKit.intOf i).toNat)
       case atStart => exact ⟨0, rfl, Nat.zero_le _, Lib.hid (fun j _ h => by omega), HZ⟩
       case round =>
        obtain ⟨q, rfl, hq, HJ, HW⟩ := hrel
        generalize wr = wj at *
        by_cases hqt : q < b.length
        · have hqi : (q : Int) < (b.length : Int) := by omega
          have hwq : IntKind.i64.wrap ((q : Int) + 1) = (q : Int) + 1 := IntWalk.i64_in _ (by omega)
          obtain ⟨yb, yo, rfl, _, hyc⟩ := HBB.out q hqt
          obtain ⟨mb, mo, rfl, _, hmc⟩ := (HRL.out wp (Below.refl _ _)).t9 q (by rw [HMN.out]; exact hqt)
          rw [HME.out q hqt] at hmc
          have m0 := fun n => (show (wj.drewN n).cell? ⟨xb, xo + k, none⟩ = some (.string x) from HXC.out wj HW.out)
          have m1 := fun n => (show (wj.drewN n).cell? ⟨yb, yo + q, none⟩ = some (.string b[q]) from hyc wj (below_up8 HB.out HW.out))
          have m2 := fun n => (show (wj.drewN n).cell? ⟨mb, mo + q, none⟩ = some (.string (sha b[q])) from hmc wj HW.out)
          have m0' := m0 0; have m1' := m1 0; have m2' := m2 0
          have m0' := (show wj.cell? ⟨xb, xo + k, none⟩ = some (.string x) from m0'); have m1' := (show wj.cell? ⟨yb, yo + q, none⟩ = some (.string b[q]) from m1'); have m2' := (show wj.cell? ⟨mb, mo + q, none⟩ = some (.string (sha b[q])) from m2')
          clear m0 m1 m2
          have ixa := fun W => at_t9 xb xo a.length c1 k HLT.out W
          have ixb := fun W => at_t9 yb yo b.length c2 q hqt W
          have ixm := fun W => at_t9 mb mo b.length yc q hqt W
          have HQT := Lib.hid hqt
          have HYQ := Lib.hid (fun h => HYK.out q hqt h)
          have HJN := Lib.hid (fun (h : coll9 x b[q] = false) => show ∀ j (hj : j < b.length), j < q + 1 → coll9 x b[j] = false from fun j hj h9 => by
           rcases Nat.lt_or_ge j q with h3 | h3
           · exact HJ.out j hj h3
           · obtain rfl : j = q := by omega
             exact h)
          generalize b[q]'hqt = y at *
          clear hyc hmc hqt hq
          by_cases hxy : x = y
          · subst hxy
            have he1 : (x.toList == x.toList) = true := by simp
            have HJ2 := Lib.hid (HJN.out (coll_same9 x))
            go_wp2_with fail
            go_quiet (fail)
            go_wp2_with fail
            go_roundw
            case rel => exact ⟨q + 1, by go_num, HQT.out, HJ2, Lib.hid (below_same HW.out rfl rfl rfl rfl)⟩
            case measure => have := HQT.out; simp [RowKit.intOf]; omega
          · have he1 : (x.toList == y.toList) = false := by rw [str_eq_iff, decide_eq_false hxy]
            have he2 : (x.toList != y.toList) = true := by rw [bne, he1]; rfl
            have HCN := Lib.hid (coll_ne9 hxy)
            generalize sha x = X at *
            generalize sha y = Y at *
            by_cases hXY : X = Y
            · have HRT := Lib.hid (HYQ.out (by rw [HCN.out, decide_eq_true hXY]))
              have hq2 : (X.toList == Y.toList) = true := by rw [str_eq_iff, decide_eq_true hXY]
              clear hXY hxy
              go_wp2_with fail
              go_quiet (fail)
              go_wp2_with fail
              go_ret
              exact ⟨by rw [HRT.out]; rfl, below_same (below_up8 HB.out HW.out) rfl rfl rfl rfl⟩
            · have hq2 : (X.toList == Y.toList) = false := by rw [str_eq_iff, decide_eq_false hXY]
              have HJ2 := Lib.hid (HJN.out (by rw [HCN.out, decide_eq_false hXY]))
              clear hXY hxy
              go_wp2_with fail
              go_quiet (fail)
              go_wp2_with fail
              go_roundw
              case rel => exact ⟨q + 1, by go_num, HQT.out, HJ2, Lib.hid (below_same HW.out rfl rfl rfl rfl)⟩
              case measure => have := HQT.out; simp [RowKit.intOf]; omega
        · have hqi : ¬ (q : Int) < (b.length : Int) := by omega
          have HN2 := Lib.hid (HNN.out fun j hj => HJ.out j hj (by omega))
          clear hqt hq
          go_wp2_with fail
          go_roundw
          case rel => exact ⟨k + 1, by go_num, HLT.out, HN2, HW⟩
          case measure => have := HLT.out; simp [RowKit.intOf]; omega
     · have hki : ¬ (k : Int) < (a.length : Int) := by omega
       have HRF := Lib.hid (HNO.out fun i hi j hj => HN.out i hi (by omega) j hj)
       clear hlt hk
       go_wp2_with fail
       go_ret
       exact ⟨by rw [HRF.out]; rfl, below_up8 HB.out HQ.out⟩
end Go.Proofs.YtnpfhcnjkekhbaaGreatDoor
