/-
  Layer 9, the reference: in, numbers, Encode. Layer 9, the reference: Encode. Layer 9, the reference: Chain. Layer 9, the reference: Valid, Follows, EncodeBatch. Layer 9, the reference: rows of texts; Chained: the strings whose digests make a chain.
-/
import Derived.Test.YtnpfhcnjkekhbaaGreatDoorProg
import Derived.Test.YtnpfhcnjkekhbaaGreatDoorK21
import Derived.Test.YtnpfhcnjkekhbaaGreatDoorK24
import Derived.Shelf.Strings.BuilderK
import Derived.Shelf.Strings.Repeat
import Derived.Maps.Own
import Derived.Maps.OwnOps
import Derived.Laws.Rows
import Derived.Laws.OwnMore
import Derived.OwnWalk
import Derived.WalkKit
import Derived.WalkLawsBesides
import Derived.Outline
import Derived.Lib.Hide
import Derived.Below
import Derived.BigQuiet
import Derived.Deep.QuietTactic
import Derived.Deep.RegionHeld3
import Derived.Lib.QuietBelow
import Derived.Deep.DeepCutAuto
import Derived.StillTail
import Derived.Lib.Varint
import Derived.Lib.SlBytesRow
import Derived.Shelf.Abstract
import Derived.OwnWalkIn
import Derived.TacticsInMore
import Derived.LoopNIn
import Derived.LoopIn
import Derived.RangeFuncNested
import Derived.RangeFuncBound
import Derived.RangeFuncCalls
import Derived.RangeFuncLeaves
import Derived.RangeFuncBox
import Derived.Lib.ConvBytes
import Derived.DefersIn
import Derived.Laws.CopyOwn
import Derived.RegionTactic
import Derived.ChangeAlike
import Derived.Deep.RegionWith
import Derived.Deep.CutRange
import Derived.IntWalk
import Derived.Lib.EndianBits
import Derived.Lib.Strings
import Derived.ControlIn
import Derived.WalkMore
import Derived.Lib.SliceRun
import Derived.RangeFuncRecord
import Derived.Shelf.LaysM
import Derived.Shelf.Strconv.Clone
import Derived.Maps.AppendAt
import Derived.Deep.RegionLaw
import Derived.Laws.AppendOwn
set_option maxRecDepth 100000
set_option maxHeartbeats 16000000
namespace Go.Proofs.YtnpfhcnjkekhbaaGreatDoor
open Go Go.Proofs Go.RowKit Go.Lib Go.Maps
open W1 (encS refPut_yes)
theorem inR9_any (n lo hi : Int) (w : World) :
 Calls Tryz.prog 49 #[.int .i64 n, .int .i64 lo, .int .i64 hi] w fun e w' => e = .returned (.bool (inB n lo hi)) ∧ w' = w := by
 obtain ⟨B, hB⟩ : ∃ B, inB n lo hi = B := ⟨_, rfl⟩
 rw [hB]
 have HB := Lib.hid hB
 clear hB
 by_cases h1 : lo ≤ n
 · by_cases h2 : n ≤ hi
   · have HF := Lib.hid (show B = true by rw [← HB.out]; exact decide_eq_true ⟨h1, h2⟩)
     go_enter Tryz.func49, Tryz.ntmps49
     go_wp2
     go_ret
     exact ⟨by rw [HF.out]; rfl, rfl⟩
   · have HF := Lib.hid (show B = false by rw [← HB.out]; exact decide_eq_false (by omega))
     go_enter Tryz.func49, Tryz.ntmps49
     go_wp2
     go_ret
     exact ⟨by rw [HF.out]; rfl, rfl⟩
 · have h3 : decide (lo ≤ n) = false := decide_eq_false h1
   have HF := Lib.hid (show B = false by rw [← HB.out]; exact decide_eq_false (by omega))
   go_enter Tryz.func49, Tryz.ntmps49
   go_wp2
   go_ret
   exact ⟨by rw [HF.out]; rfl, rfl⟩
def bytesL (l : List UInt8) : ByteArray := ⟨l.toArray⟩
theorem bytesL_app (l : List UInt8) (S : ByteArray) (q : List UInt8) (h : S.data.toList = q) : bytesL l ++ S = bytesL (l ++ q) := by
 subst h
 apply ByteArray.ext
 simp [bytesL, ByteArray.data_append]
theorem bytesL_size (l : List UInt8) : (bytesL l).size = l.length := by simp [bytesL, ByteArray.size]
theorem numbersR9_any (ad : Option Addr) (c : Nat) (l : List Int) (hl : l.length ≤ 100) (hfit : ∀ x ∈ l, FitI x) (w : World) (hI : RL KI w ad l) :
 Calls Tryz.prog 41 #[.slice ad l.length c] w fun e w' => e = .returned (.string (bytesL (encL l))) ∧ Below w.heap.size w w' := by
 have HC := Lib.hid (fun k hk => hI.int k hk)
 have HFT := Lib.hid hfit
 obtain ⟨P, hP⟩ : ∃ P : Nat → ByteArray, P = fun k => bytesL (encL (l.take k)) := ⟨_, rfl⟩
 obtain ⟨R, hR⟩ : ∃ R, R = bytesL (encL l) := ⟨_, rfl⟩
 have HP0 := Lib.hid (show P 0 = ⟨#[]⟩ from by rw [hP]; rfl)
 have HPN := Lib.hid (show P l.length = R from by rw [hP, hR]; simp only [List.take_length])
 have HPS := Lib.hid (show ∀ k (hk : k < l.length), P k ++ encS l[k] = P (k + 1) from by
  intro k hk
  rw [hP]
  show bytesL (encL (l.take k)) ++ encS l[k] = bytesL (encL (l.take (k + 1)))
  rw [List.take_succ_eq_append_getElem hk, encL_snoc, bytesL_app _ _ _ (encS_bytes _)])
 have HPZ := Lib.hid (show ∀ k, (P k).size ≤ 900 from by
  intro k
  rw [hP]
  show (bytesL (encL (l.take k))).size ≤ 900
  rw [bytesL_size]
  have := encL_le (l.take k) fun y hy => hfit y (List.mem_of_mem_take hy)
  rw [List.length_take] at this
  omega)
 rw [← hR]
 clear hI hfit hP hR
 go_enter Tryz.func41, Tryz.ntmps41
 go_wp2_with fail
 go_loopw [3, 4] (fun s i wr => ∃ k : Nat, i = .int .i64 k ∧ k ≤ l.length ∧ s = .string (P k) ∧ Hid (Below w.heap.size w wr)) (fun _ i _ => l.length - (RowKit.intOf i).toNat)
 case atStart => exact ⟨0, rfl, Nat.zero_le _, by rw [HP0.out], Lib.hid (Below.refl _ _)⟩
 case round =>
  obtain ⟨k, rfl, hk, rfl, HB⟩ := hrel
  by_cases hlt : k < l.length
  · have hki : (k : Int) < (l.length : Int) := by omega
    obtain ⟨xb, xo, rfl, _, hxc⟩ := HC.out k hlt
    have c0 := hxc wr HB.out
    have hik := fun W => at_int8 xb xo l.length c k hlt W
    have HFX := Lib.hid (HFT.out _ (List.getElem_mem hlt))
    have HST := Lib.hid (HPS.out k hlt)
    have HLT := Lib.hid hlt
    have hsz := HPZ.out k
    generalize l[k]'hlt = x at *
    obtain ⟨PN, hPN⟩ : ∃ PN, PN = P (k + 1) := ⟨_, rfl⟩
    rw [← hPN] at HST
    have HPN2 := Lib.hid hPN
    generalize P k = p at *
    have HPI := Lib.hid (fun W => refPut_yes x HFX.out.1 HFX.out.2 W)
    have hes : (encS x).size ≤ 9 := by rw [encS_size]; exact encI_le HFX.out
    generalize encS x = E at *
    clear hxc hlt hPN
    go_wp2_with fail
    refine (HPI.out _).mono ?_
    rintro e w1 ⟨rfl, h1⟩
    have HB1 := Lib.hid (below_up8 HB.out h1)
    clear h1 c0
    go_wp2_with fail
    go_roundw
    case rel => exact ⟨k + 1, by go_num, HLT.out, by rw [HST.out, HPN2.out], HB1⟩
    case measure => have := HLT.out; simp [RowKit.intOf]; omega
  · have hke : k = l.length := by omega
    have hki : ¬ (k : Int) < (l.length : Int) := by omega
    have HF := Lib.hid (show P k = R from by rw [hke]; exact HPN.out)
    rw [HF.out]
    clear hke hlt HF
    go_wp2_with fail
    go_ret
    exact ⟨rfl, HB.out⟩
end Go.Proofs.YtnpfhcnjkekhbaaGreatDoor

namespace Go.Proofs.YtnpfhcnjkekhbaaGreatDoor
open Go Go.Proofs Go.RowKit Go.Lib Go.Maps
theorem encodeR9_any (x : Ev) (w : World) :
 Calls Tryz.prog 9 #[x.val] w fun e w' => e = .returned (.tuple #[.string (encV x), .int .i64 (encN x)]) ∧ Below w.heap.size w w' := by
 obtain ⟨w1, V1, Z1, K1, B1⟩ := lay8 w x.cells 23
 have V1 := (show w.alloc (.cells #[.int .i64 x.ag, .int .i64 x.sq, .int .i64 x.tm, .int .i64 x.kd, .int .i64 x.tr, .int .i64 x.sp, .int .i64 x.lk, .int .i64 x.gn, .int .i64 x.op, .int .i64 x.vr, .int .i64 x.pe, .int .i64 x.bt] 23) = w1 from V1)
 obtain ⟨d0, d1, d2, d3, d4, d5, d6, d7, d8, d9, d10, d11⟩ := CellsAt.ev K1
 have HB := Lib.hid B1
 have HE := Lib.hid (eventR_any x w1)
 have KV := Lib.hid (fun W (b : Below w1.heap.size w1 W) => CellsAt.ev (CellsAt.below K1 b))
 have HN := Lib.hid (show ∀ (W W2 : World), evB x = true → W.alloc (.cells #[.int .i64 x.ag, .int .i64 x.sq, .int .i64 x.tm, .int .i64 x.kd, .int .i64 x.tr, .int .i64 x.sp, .int .i64 x.lk, .int .i64 x.gn, .int .i64 x.op, .int .i64 x.vr, .int .i64 x.pe, .int .i64 x.bt] 3) = W2 → CellsAt W2 W.heap.size (x.nums.map (Value.int .i64)) → W2.heap.size = W.heap.size + 1 → Calls Tryz.prog 41 #[.slice (some ⟨W.heap.size, 0, none⟩) 12 12] W2 (fun e w' => e = .returned (.string (encT x)) ∧ Below W2.heap.size W2 w') from fun W W2 h _ K2 hz => by
  have hr : RL KI W2 (some ⟨W.heap.size, 0, none⟩) x.nums := .inr ⟨W.heap.size, 0, rfl, by omega, fun i hi j hj => by
   have hj0 : j = 0 := by have : j < 1 := hj; omega
   subst hj0
   have h := (K2 i (by rw [List.length_map]; exact hi)).1
   rw [List.getElem_map] at h
   rw [show 0 + KI.n * i + 0 = i by show 0 + 1 * i + 0 = i; omega, h]
   rfl⟩
  have h0 := numbersR9_any (some ⟨W.heap.size, 0, none⟩) 12 x.nums (by rw [nums_len]; omega) (nums_fit h) W2 hr
  rw [nums_len, show bytesL (encL x.nums) = encT x by unfold bytesL encT encE; rfl] at h0
  exact h0)
 have HL := Lib.hid (fun W => lay8 W (x.nums.map (Value.int .i64)) 3)
 rw [Ev.val_mk] at HE ⊢
 obtain ⟨S, hS⟩ : ∃ S, encV x = S := ⟨_, rfl⟩
 obtain ⟨C, hC⟩ : ∃ C, encN x = C := ⟨_, rfl⟩
 rw [hS, hC]
 have HS := Lib.hid hS
 have HCC := Lib.hid hC
 clear K1 B1 Z1 hS hC
 cases hv : evB x with
 | true =>
  have HSV := Lib.hid (show S = encT x from by rw [← HS.out]; unfold encV; rw [if_pos hv])
  have HCV := Lib.hid (show C = 0 from by rw [← HCC.out]; unfold encN; rw [if_pos hv])
  have HN := Lib.hid (fun W W2 e K2 hz => HN.out W W2 hv e K2 hz)
  rw [hv] at HE
  rw [← HSV.out] at HN
  clear hv
  go_enter Tryz.func9, Tryz.ntmps9
  go_wp2_with fail
  refine HE.out.mono ?_
  rintro e z ⟨rfl, hz⟩
  have HZ := Lib.hid hz
  clear hz V1 d0 d1 d2 d3 d4 d5 d6 d7 d8 d9 d10 d11
  obtain ⟨d0, d1, d2, d3, d4, d5, d6, d7, d8, d9, d10, d11⟩ := KV.out z HZ.out
  obtain ⟨w2, V2, Z2, K2, B2⟩ := HL.out z
  have V2 := (show z.alloc (.cells #[.int .i64 x.ag, .int .i64 x.sq, .int .i64 x.tm, .int .i64 x.kd, .int .i64 x.tr, .int .i64 x.sp, .int .i64 x.lk, .int .i64 x.gn, .int .i64 x.op, .int .i64 x.vr, .int .i64 x.pe, .int .i64 x.bt] 3) = w2 from V2)
  have HN2 := Lib.hid (HN.out z w2 V2 K2 Z2)
  have HB2 := Lib.hid (below_up8 HB.out (below_up8 HZ.out B2))
  clear K2 B2 Z2
  go_wp2_with fail
  refine HN2.out.mono ?_
  rintro e w3 ⟨rfl, h3⟩
  have HB3 := Lib.hid (below_up8 HB2.out h3)
  clear h3 V2 d0 d1 d2 d3 d4 d5 d6 d7 d8 d9 d10 d11
  go_wp2_with fail
  go_ret2
  exact ⟨by rw [HCV.out]; rfl, HB3.out⟩
 | false =>
  have HSV := Lib.hid (show S = ByteArray.empty from by rw [← HS.out]; unfold encV; rw [if_neg (by rw [hv]; decide)])
  have HCV := Lib.hid (show C = 90 from by rw [← HCC.out]; unfold encN; rw [if_neg (by rw [hv]; decide)])
  rw [hv] at HE
  clear hv
  go_enter Tryz.func9, Tryz.ntmps9
  go_wp2_with fail
  refine HE.out.mono ?_
  rintro e z ⟨rfl, hz⟩
  have HZ := Lib.hid (below_up8 HB.out hz)
  clear hz V1 d0 d1 d2 d3 d4 d5 d6 d7 d8 d9 d10 d11
  go_wp2_with fail
  go_ret2
  exact ⟨by rw [HCV.out, HSV.out]; rfl, HZ.out⟩
end Go.Proofs.YtnpfhcnjkekhbaaGreatDoor

namespace Go.Proofs.YtnpfhcnjkekhbaaGreatDoor
open Go Go.Proofs Go.RowKit Go.Lib Go.Maps
theorem chainV_yes {h : ByteArray} {l : List Ev} (hs : h.size = 32) (hv : ∀ x ∈ l, evB x = true) : chainV h l = chH chainF h l ∧ chainN h l = 0 := by
 unfold chainV chainN
 have e : h.size = 32 ∧ l.all evB = true := ⟨hs, List.all_eq_true.2 hv⟩
 rw [if_pos e, if_pos e]
 exact ⟨rfl, rfl⟩
theorem chainV_no {h : ByteArray} {l : List Ev} (hn : ¬ (h.size = 32 ∧ l.all evB = true)) : chainV h l = ByteArray.empty ∧ chainN h l = 90 := by
 unfold chainV chainN
 rw [if_neg hn, if_neg hn]
 exact ⟨rfl, rfl⟩
theorem chainR9_any (h : ByteArray) (ad : Option Addr) (c : Nat) (l : List Ev) (hl : l.length ≤ maxLen) (w : World) (hI : RL KE w ad l) :
 Calls Tryz.prog 18 #[.string h, .slice ad l.length c] w fun e w' => e = .returned (.tuple #[.string (chainV h l), .int .i64 (chainN h l)]) ∧ Below w.heap.size w w' := by
 unfold maxLen at hl
 have HC := Lib.hid (fun k hk => hI.ev k hk)
 obtain ⟨S, hS⟩ : ∃ S, chainV h l = S := ⟨_, rfl⟩
 obtain ⟨C, hC⟩ : ∃ C, chainN h l = C := ⟨_, rfl⟩
 rw [hS, hC]
 have HSC := Lib.hid (And.intro hS hC)
 clear hS hC hI
 by_cases h32 : h.size = 32
 · have h32i : (h.size : Int) = 32 := by omega
   have H32 := Lib.hid h32
   obtain ⟨P, hP⟩ : ∃ P : Nat → ByteArray, P = fun k => chH chainF h (l.take k) := ⟨_, rfl⟩
   have HTK := Lib.hid (show ∀ k (hk : k < l.length), P (k + 1) = chainF (P k) (encT l[k]) from by rw [hP]; exact fun k hk => chH_take hk)
   have HLE := Lib.hid (show ∀ k, (P k).size ≤ 1000000 from by rw [hP]; exact fun k => chH_le (by omega) (l.take k))
   have HP0 := Lib.hid (show h = P 0 from by rw [hP]; rfl)
   have HPE := Lib.hid (show P l.length = chH chainF h l from by rw [hP]; simp only [List.take_length])
   clear hP h32
   go_enter Tryz.func18, Tryz.ntmps18
   go_wp2_with fail
   clear h32i
   go_loopw [0, 6] (fun s i wr => ∃ k : Nat, i = .int .i64 k ∧ k ≤ l.length ∧ s = .string (P k) ∧ Hid (∀ j (hj : j < l.length), j < k → evB l[j] = true) ∧ Hid (Below w.heap.size w wr)) (fun _ i _ => l.length - (RowKit.intOf i).toNat)
   case atStart => exact ⟨0, rfl, Nat.zero_le _, by rw [← HP0.out], Lib.hid (fun j _ hj => by omega), Lib.hid (Below.refl _ _)⟩
   case round =>
    obtain ⟨k, rfl, hk, rfl, HV, HB⟩ := hrel
    by_cases hlt : k < l.length
    · have hki : (k : Int) < (l.length : Int) := by omega
      obtain ⟨xb, xo, rfl, _, hxc⟩ := HC.out k hlt
      obtain ⟨d0, d1, d2, d3, d4, d5, d6, d7, d8, d9, d10, d11⟩ := hxc wr HB.out
      have hik := fun W => at_ev8 xb xo l.length c k hlt W
      have hwk : IntKind.i64.wrap ((k : Int) + 1) = (k : Int) + 1 := IntWalk.i64_in _ (by omega)
      have HLT := Lib.hid hlt
      have HT := Lib.hid (HTK.out k hlt)
      have HLP := Lib.hid (HLE.out k)
      have HNX := Lib.hid (fun (e : evB l[k] = true) => show ∀ j (hj : j < l.length), j < k + 1 → evB l[j] = true from fun j hj h9 => by
       rcases Nat.lt_or_ge j k with h | h
       · exact HV.out j hj h
       · obtain rfl : j = k := by omega
         exact e)
      have HNO := Lib.hid (fun (e : ¬ evB l[k] = true) => show S = ByteArray.empty ∧ C = 90 from by
       have := chainV_no (h := h) (l := l) fun h9 => e (List.all_eq_true.1 h9.2 _ (List.getElem_mem hlt))
       rw [HSC.out.1, HSC.out.2] at this
       exact this)
      generalize l[k]'hlt = x at *
      obtain ⟨PN, hPN⟩ : ∃ PN, PN = P (k + 1) := ⟨_, rfl⟩
      rw [← hPN] at HT
      have HPN := Lib.hid hPN
      generalize P k = p at *
      have HE := Lib.hid (fun W => encodeR9_any x W)
      rw [Ev.val_mk] at HE
      clear hxc hlt hPN
      cases hv : evB x with
      | true =>
       have HNX := Lib.hid (HNX.out hv)
       have hez := encT_size hv
       have e1 : encV x = encT x := by unfold encV; rw [if_pos hv]
       have e2 : encN x = 0 := by unfold encN; rw [if_pos hv]
       rw [e1, e2] at HE
       have HCH := Lib.hid (fun W => chainR_any p (encT x) HLP.out (by omega) W)
       rw [← HT.out] at HCH
       clear hez e1 e2 hv HNO
       generalize encT x = X at *
       go_wp2_with fail
       refine (HE.out _).mono ?_
       rintro e z ⟨rfl, hz⟩
       have HZ := Lib.hid (below_up8 HB.out hz)
       clear hz d0 d1 d2 d3 d4 d5 d6 d7 d8 d9 d10 d11
       go_wp2_with fail
       refine (HCH.out _).mono ?_
       rintro e z2 ⟨rfl, hz⟩
       have HZ2 := Lib.hid (below_up8 HZ.out hz)
       clear hz
       go_wp2_with fail
       go_roundw
       case rel => exact ⟨k + 1, by go_num, HLT.out, by rw [← HPN.out], HNX, HZ2⟩
       case measure => have := HLT.out; simp [RowKit.intOf]; omega
      | false =>
       have HNO := Lib.hid (HNO.out (by rw [hv]; decide))
       have e1 : encV x = ByteArray.empty := by unfold encV; rw [if_neg (by rw [hv]; decide)]
       have e2 : encN x = 90 := by unfold encN; rw [if_neg (by rw [hv]; decide)]
       rw [e1, e2] at HE
       clear e1 e2 hv HNX
       go_wp2_with fail
       refine (HE.out _).mono ?_
       rintro e z ⟨rfl, hz⟩
       have HZ := Lib.hid (below_up8 HB.out hz)
       clear hz d0 d1 d2 d3 d4 d5 d6 d7 d8 d9 d10 d11
       go_wp2_with fail
       go_ret2
       exact ⟨by rw [HNO.out.1, HNO.out.2]; rfl, HZ.out⟩
    · have hke : k = l.length := by omega
      have hki : ¬ (k : Int) < (l.length : Int) := by omega
      have HF := Lib.hid (show P k = S ∧ C = 0 from by
       have := chainV_yes (h := h) (l := l) H32.out fun x hx => by
        obtain ⟨j, hj, rfl⟩ := List.getElem_of_mem hx
        exact HV.out j hj (by omega)
       rw [HSC.out.1, HSC.out.2] at this
       exact ⟨by rw [hke, HPE.out, this.1], this.2⟩)
      rw [HF.out.1]
      clear hke hlt
      go_wp2_with fail
      go_ret2
      exact ⟨by rw [HF.out.2]; rfl, HB.out⟩
 · have h32i : ¬ (h.size : Int) = 32 := by omega
   have HNO := Lib.hid (show S = ByteArray.empty ∧ C = 90 from by
    have := chainV_no (h := h) (l := l) fun h9 => h32 h9.1
    rw [HSC.out.1, HSC.out.2] at this
    exact this)
   clear h32
   go_enter Tryz.func18, Tryz.ntmps18
   go_wp2_with fail
   go_ret2
   exact ⟨by rw [HNO.out.1, HNO.out.2]; rfl, Below.refl _ _⟩
end Go.Proofs.YtnpfhcnjkekhbaaGreatDoor

namespace Go.Proofs.YtnpfhcnjkekhbaaGreatDoor
open Go Go.Proofs Go.RowKit Go.Lib Go.Maps
theorem validR9_any (b : Bt) (ad : Option Addr) (c : Nat) (hl : b.ev.length ≤ maxLen) (w : World) (hI : RL KE w ad b.ev) :
 Calls Tryz.prog 16 #[.agg #[.int .i64 b.ag, .int .i64 b.fs, .slice ad b.ev.length c, .int .i64 b.lw, .string b.hd]] w fun e w' => e = .returned (.bool (btB b)) ∧ Below w.heap.size w w' := by
 unfold maxLen at hl
 obtain ⟨w1, V1, Z1, B1, KB⟩ := btbox9 w b ad c
 obtain ⟨y0, y1, y2, y3, y4⟩ := KB w1 (Below.refl _ _)
 have HB1 := Lib.hid B1
 have HKB := Lib.hid KB
 have HC := Lib.hid (fun k hk => hI.ev k hk)
 obtain ⟨R, hR2⟩ : ∃ R, btB b = R := ⟨_, rfl⟩
 rw [hR2]
 have HB := Lib.hid hR2
 have HNO := Lib.hid (fun h : ¬ btB b = true => show R = false from by rw [← HB.out]; exact btB_no h)
 clear hI B1 KB Z1 hR2
 cases h1 : inB b.ag 0 5 with
 | false =>
  have HF := Lib.hid (HNO.out (fun h => by have := (btB_of h).1; rw [inB_yes this.1 this.2] at h1; cases h1))
  go_enter Tryz.func16, Tryz.ntmps16
  go_wp2_with (go_at_call 49; refine (inR9_any _ _ _ _).mono ?_; rintro e z ⟨rfl, hz⟩; subst z)
  go_ret
  exact ⟨by rw [HF.out]; rfl, HB1.out⟩
 | true =>
  have Hh1 := Lib.hid h1
  cases h2 : inB b.fs 0 999 with
  | false =>
   have HF := Lib.hid (HNO.out (fun h => by have := (btB_of h).2.1; rw [inB_yes this.1 this.2] at h2; cases h2))
   go_enter Tryz.func16, Tryz.ntmps16
   go_wp2_with (go_at_call 49; refine (inR9_any _ _ _ _).mono ?_; rintro e z ⟨rfl, hz⟩; subst z)
   go_ret
   exact ⟨by rw [HF.out]; rfl, HB1.out⟩
  | true =>
   have Hh2 := Lib.hid h2
   by_cases h5 : (b.ev.length : Int) ≤ 24
   rotate_left
   · have HF := Lib.hid (HNO.out (fun h => by have := (btB_of h).2.2.1; omega))
     have h5' : (24 : Int) < (b.ev.length : Int) := by omega
     have h5d : decide ((24 : Int) < (b.ev.length : Int)) = true := decide_eq_true h5'
     clear h5
     go_enter Tryz.func16, Tryz.ntmps16
     go_wp2_with (go_at_call 49; refine (inR9_any _ _ _ _).mono ?_; rintro e z ⟨rfl, hz⟩; subst z)
     go_ret
     exact ⟨by rw [HF.out]; rfl, HB1.out⟩
   have h5' : ¬ (24 : Int) < (b.ev.length : Int) := by omega
   have h5d : decide ((24 : Int) < (b.ev.length : Int)) = false := decide_eq_false h5'
   have H5 := Lib.hid h5
   clear h5
   cases h3 : inB b.lw 0 1000 with
   | false =>
    have HF := Lib.hid (HNO.out (fun h => by have := (btB_of h).2.2.2.1; rw [inB_yes this.1 this.2] at h3; cases h3))
    go_enter Tryz.func16, Tryz.ntmps16
    go_wp2_with (go_at_call 49; refine (inR9_any _ _ _ _).mono ?_; rintro e z ⟨rfl, hz⟩; subst z)
    go_ret
    exact ⟨by rw [HF.out]; rfl, HB1.out⟩
   | true =>
    have Hh3 := Lib.hid h3
    by_cases h4 : (b.hd.size : Int) = 32
    rotate_left
    · have HF := Lib.hid (HNO.out (fun h => by have := (btB_of h).2.2.2.2.1; omega))
      have h4n : ¬ b.hd.size = 32 := by omega
      have h4d : ((b.hd.size : Int) != 32) = true := by rw [bne, beq_eq_false_iff_ne.2 h4]; rfl
      clear h4 h4n
      go_enter Tryz.func16, Tryz.ntmps16
      go_wp2_with (go_at_call 49; refine (inR9_any _ _ _ _).mono ?_; rintro e z ⟨rfl, hz⟩; subst z)
      go_ret
      exact ⟨by rw [HF.out]; rfl, HB1.out⟩
    have H4 := Lib.hid h4
    have h4d : ((b.hd.size : Int) != 32) = false := by rw [bne, beq_iff_eq.2 h4]; rfl
    go_enter Tryz.func16, Tryz.ntmps16
    go_wp2_with (go_at_call 49; refine (inR9_any _ _ _ _).mono ?_; rintro e z ⟨rfl, hz⟩; subst z)
    clear h1 h2 h3 h4 h5' h5d h4d V1 y0 y1 y2 y3 y4
    go_loopw [3] (fun i wr => ∃ k : Nat, i = .int .i64 k ∧ k ≤ b.ev.length ∧ Hid (∀ j, j < k → evB (evD b.ev j) = true ∧ (evD b.ev j).ag = b.ag ∧ (evD b.ev j).sq = b.fs + (j : Int)) ∧ Hid (Below w1.heap.size w1 wr)) (fun i _ => b.ev.length - (RowKit.intOf i).toNat)
    case atStart => exact ⟨0, rfl, Nat.zero_le _, Lib.hid (fun j hj => by omega), Lib.hid (Below.refl _ _)⟩
    case round =>
     obtain ⟨k, rfl, hk, HO, HW⟩ := hrel
     obtain ⟨y0, y1, y2, y3, y4⟩ := HKB.out wr HW.out
     by_cases hlt : k < b.ev.length
     · have hki : (k : Int) < (b.ev.length : Int) := by omega
       have hwk : IntKind.i64.wrap ((k : Int) + 1) = (k : Int) + 1 := IntWalk.i64_in _ (by omega)
       have hwf : IntKind.i64.wrap (b.fs + (k : Int)) = b.fs + (k : Int) := IntWalk.i64_in _ (by have := of_inB Hh2.out; have := H5.out; omega)
       obtain ⟨xb, xo, rfl, _, hxc⟩ := HC.out k hlt
       have HXC := Lib.hid (fun W (bw : Below w1.heap.size w1 W) => hxc W (below_up8 HB1.out bw))
       obtain ⟨d0, d1, d2, d3, d4, d5, d6, d7, d8, d9, d10, d11⟩ := HXC.out wr HW.out
       have hik := fun W => at_ev8 xb xo b.ev.length c k hlt W
       have HLT := Lib.hid hlt
       have hgd := evD_of hlt
       have HN := Lib.hid (fun h : ¬ (evB (evD b.ev k) = true ∧ (evD b.ev k).ag = b.ag ∧ (evD b.ev k).sq = b.fs + (k : Int)) => show R = false from HNO.out (fun hb => h (numB_of (btB_of hb).2.2.2.2.2 k hlt)))
       have HS := Lib.hid (show (evB (evD b.ev k) = true ∧ (evD b.ev k).ag = b.ag ∧ (evD b.ev k).sq = b.fs + (k : Int)) → ∀ j, j < k + 1 → evB (evD b.ev j) = true ∧ (evD b.ev j).ag = b.ag ∧ (evD b.ev j).sq = b.fs + (j : Int) from fun h j hj => by
        rcases Nat.lt_or_ge j k with h9 | h9
        · exact HO.out j h9
        · obtain rfl : j = k := by omega
          exact h)
       rw [hgd] at HN HS
       generalize b.ev[k]'hlt = x at *
       have HE := Lib.hid (fun W => eventR_any x W)
       rw [Ev.val_mk] at HE
       clear hxc hgd hlt hk
       go_wp2_with fail
       refine (HE.out _).mono ?_
       rintro e z ⟨rfl, hz⟩
       have HZ := Lib.hid (below_up8 HW.out hz)
       clear hz d0 d1 d2 d3 d4 d5 d6 d7 d8 d9 d10 d11 y0 y1 y2 y3 y4
       obtain ⟨y0, y1, y2, y3, y4⟩ := HKB.out z HZ.out
       obtain ⟨d0, d1, d2, d3, d4, d5, d6, d7, d8, d9, d10, d11⟩ := HXC.out z HZ.out
       cases hev : evB x with
       | false =>
        have HF := Lib.hid (HN.out (fun h => by rw [hev] at h; cases h.1))
        clear hev
        go_wp2_with fail
        go_quiet (fail)
        go_wp2_with fail
        go_ret
        exact ⟨by rw [HF.out]; rfl, below_same (below_up8 HB1.out HZ.out) rfl rfl rfl rfl⟩
       | true =>
        by_cases hag : x.ag = b.ag
        · by_cases hsq : x.sq = b.fs + (k : Int)
          · have HS2 := Lib.hid (HS.out ⟨hev, hag, hsq⟩)
            clear hev
            go_wp2_with fail
            go_quiet (fail)
            go_wp2_with fail
            go_roundw
            case rel => exact ⟨k + 1, by go_num, HLT.out, HS2, Lib.hid (below_same HZ.out rfl rfl rfl rfl)⟩
            case measure => have := HLT.out; simp [RowKit.intOf]; omega
          · have HF := Lib.hid (HN.out (fun h => hsq h.2.2))
            clear hev
            go_wp2_with fail
            go_quiet (fail)
            go_wp2_with fail
            go_ret
            exact ⟨by rw [HF.out]; rfl, below_same (below_up8 HB1.out HZ.out) rfl rfl rfl rfl⟩
        · have HF := Lib.hid (HN.out (fun h => hag h.2.1))
          clear hev
          go_wp2_with fail
          go_quiet (fail)
          go_wp2_with fail
          go_ret
          exact ⟨by rw [HF.out]; rfl, below_same (below_up8 HB1.out HZ.out) rfl rfl rfl rfl⟩
     · have hke : k = b.ev.length := by omega
       have hki : ¬ (k : Int) < (b.ev.length : Int) := by omega
       have HT := Lib.hid (show R = true from by
        rw [← HB.out]
        unfold btB
        rw [Hh1.out, Hh2.out, Hh3.out, decide_eq_true (show b.hd.size = 32 by have := H4.out; omega), decide_eq_true (show b.ev.length ≤ 24 by have := H5.out; omega), numB_yes (fun i hi => HO.out i (by omega))]
        rfl)
       clear hke hlt hk
       go_wp2_with fail
       go_ret
       exact ⟨by rw [HT.out]; rfl, below_up8 HB1.out HW.out⟩
    end Go.Proofs.YtnpfhcnjkekhbaaGreatDoor

namespace Go.Proofs.YtnpfhcnjkekhbaaGreatDoor
open Go Go.Proofs Go.RowKit Go.Lib Go.Maps
def KT9 : RowK ByteArray where
 n := 1
 bytes := 16
 et := 9
 st := 33
 zero := .string .empty
 cs := fun s => [.string s]
 len := fun _ => rfl
 one := fun x u hu => by
  simp only [List.mem_cons, List.not_mem_nil, or_false] at hu
  subst hu
  rfl
 pos := by decide
 bb := by decide
 und := by kernel_rfl
 elem := by kernel_rfl
 info := by kernel_rfl
 zs := rfl
theorem RL.t9 {W : World} {ad : Option Addr} {l : List ByteArray} (h : RL KT9 W ad l) (k : Nat) (hk : k < l.length) : ∃ b o, ad = some ⟨b, o, none⟩ ∧ b < W.heap.size ∧ ∀ W', Below W.heap.size W W' → W'.cell? ⟨b, o + k, none⟩ = some (.string l[k]) := by
 obtain ⟨b, o, h1, h2, h3⟩ := h.at_ k hk
 refine ⟨b, o, h1, h2, fun W' hb => ?_⟩
 have := h3 W' hb 0 (by decide)
 rw [show o + KT9.n * k + 0 = o + k by show o + 1 * k + 0 = _; omega] at this
 exact this
end Go.Proofs.YtnpfhcnjkekhbaaGreatDoor
