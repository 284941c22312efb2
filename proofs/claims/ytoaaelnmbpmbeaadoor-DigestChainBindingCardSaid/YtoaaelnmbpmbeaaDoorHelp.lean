/-
  The contracts of the statements' helpers few, hex, binary and left.
-/
import Derived.Test.YtoaaelnmbpmbeaaDoorApi2
import Derived.WalkLawsBesides
namespace Go.Proofs.YtoaaelnmbpmbeaaDoor
open Go Go.Proofs Go.RowKit Go.Lib

/-- What a slice of strings that came in holds. -/
def StrsIn (W : World) (a : Option Addr) (len : Nat) (t : Nat → ByteArray) : Prop :=
  len = 0 ∨ ∃ b o, a = some ⟨b, o, none⟩ ∧ b < W.heap.size ∧ ∀ i, i < len → W.cell? ⟨b, o + i, none⟩ = some (.string (t i)) ∧ (t i).size ≤ maxLen
def cut60 (t : ByteArray) : ByteArray := t.extract 0 (min t.size 60)
theorem cut60_size (t : ByteArray) : (cut60 t).size ≤ 60 := by unfold cut60; simp; omega
/-- The first n strings, each cut to 60 bytes. -/
def fewL (t : Nat → ByteArray) : Nat → List ByteArray
  | 0 => []
  | k + 1 => fewL t k ++ [cut60 (t k)]
theorem fewL_length (t : Nat → ByteArray) : ∀ k, (fewL t k).length = k
  | 0 => rfl
  | k + 1 => by simp [fewL, fewL_length t k]
theorem fewL_small (t : Nat → ByteArray) : ∀ k, ∀ s ∈ fewL t k, s.size ≤ 60
  | 0, s, h => by simp [fewL] at h
  | k + 1, s, h => by
    simp only [fewL, List.mem_append, List.mem_singleton] at h
    rcases h with h | rfl
    · exact fewL_small t k s h
    · exact cut60_size _
theorem slice_to (t : TypeId) {P : Program} (hu : P.underlying t = some .string) (s : ByteArray) (k : Nat) (hs : k ≤ s.size) (r : ByteArray) (hr : s.extract 0 k = r) (w : World) :
    (Instr.slice t (.string s) none (some (.int .i64 (k : Nat))) none).run P w = .ok (.string r) w := by
  subst hr
  have := run_slice_string_h (P := P) w t s hu .i64 (k : Int) (by omega) (by omega)
  simpa using this

set_option maxRecDepth 100000 in
set_option maxHeartbeats 2000000 in
theorem few_any (ad : Option Addr) (n c : Nat) (t : Nat → ByteArray) (N : Nat) (hn : n ≤ maxLen) (hN : N ≤ 1000) (w : World) (hI : StrsIn w ad n t) :
    Calls Tryd.prog 21 #[.slice ad n c, .int .i64 (N : Nat)] w (ListPost w.heap.size w (fewL t (min n N))) := by
  unfold maxLen at hn
  have H := Lib.hid hI
  clear hI
  obtain ⟨M, hM⟩ : ∃ M, min n N = M := ⟨_, rfl⟩
  rw [hM]
  have hM1 : M ≤ n := by omega
  have hM2 : M ≤ N := by omega
  have HM := Lib.hid hM
  clear hM
  go_enter Tryd.func21, Tryd.ntmps21
  go_wp2_with fail
  go_loopw [5, 6] (fun v i wr => ∃ k : Nat, k ≤ M ∧ i = .int .i64 k ∧ Hid (OwnStrs wr w.heap.size v (fewL t k)) ∧ Below w.heap.size w wr) (fun _ i _ => M - (RowKit.intOf i).toNat)
  case atStart => exact ⟨0, Nat.zero_le _, rfl, OwnStrs.nil _ _, Below.refl _ _⟩
  case round =>
    obtain ⟨k, hk, rfl, hown, hbr⟩ := hrel
    by_cases hlt : k < M
    · have hk1 : (k : Int) < (n : Int) := by omega
      have hk2 : (k : Int) < (N : Int) := by omega
      obtain ⟨b, o, rfl, hlb, hcs⟩ : ∃ b o, ad = some ⟨b, o, none⟩ ∧ b < w.heap.size ∧ ∀ i, i < n → w.cell? ⟨b, o + i, none⟩ = some (.string (t i)) ∧ (t i).size ≤ maxLen := by
        rcases H.out with h | h
        · omega
        · exact h
      have hcell := (hbr.cell (p := ⟨b, o + k, none⟩) hlb).trans (hcs k (by omega)).1
      have hsz := (hcs k (by omega)).2
      unfold maxLen at hsz
      have hnext : fewL t (k + 1) = fewL t k ++ [cut60 (t k)] := rfl
      obtain ⟨T, hT⟩ : ∃ T, t k = T := ⟨_, rfl⟩
      rw [hT] at hcell hsz hnext
      obtain ⟨m, hm⟩ : ∃ m, m = min T.size 60 := ⟨_, rfl⟩
      have hmn1 : min (T.size : Int) 60 = (m : Int) := by omega
      have hmn2 : (if (60 : Int) < (T.size : Int) then (60 : Int) else (T.size : Int)) = (m : Int) := by split <;> omega
      obtain ⟨C, hC⟩ : ∃ C, cut60 T = C := ⟨_, rfl⟩
      have hCe : T.extract 0 m = C := by rw [← hC, hm]; rfl
      rw [hC] at hnext
      have hsl := slice_to 9 Tryd.underlying9 T m (by omega) C hCe
      have hlen := fewL_length t k
      obtain ⟨p, hp⟩ : ∃ p, fewL t k = p := ⟨_, rfl⟩
      rw [hp] at hown hnext hlen
      have hl1 : p.length ≤ 1000000 := by omega
      have HN := Lib.hid hnext; have HB := Lib.hid hbr
      have hsize := hbr.size
      clear hnext hcs hT hm hC hCe hp hlen hbr
      go_wp2_with fail
      go_region_law (refine step_push (w0 := w) rfl _ _ rfl w.heap.size _ p rfl (own_heap hown.out (fun k hk => Below.heap_alloc wr _ k hk)) (below_same (HB.out.alloc hsize _) rfl rfl rfl rfl) (Nat.le_trans hsize (by simp)) _ _ C rfl (new_cell wr C _) hl1 ?_; intro v3 W3 ho3 hb3)
      all_goals (go_wp2; go_roundw; (case rel => exact ⟨k + 1, by omega, by go_num, by rw [HN.out]; exact ho3, hb3⟩); (case measure => simp [RowKit.intOf]; omega))
    · have hk3 : k = M := by omega
      have HK3 := Lib.hid hk3
      by_cases hkn : k < n
      · have hk1 : (k : Int) < (n : Int) := by omega
        have hk2 : ¬ (k : Int) < (N : Int) := by have := HM.out; omega
        clear hk3
        go_wp2_with fail
        go_ret
        exact ⟨_, rfl, by rw [← HK3.out]; exact hown.out, hbr⟩
      · have hk1 : ¬ (k : Int) < (n : Int) := by omega
        clear hk3
        go_wp2_with fail
        go_ret
        exact ⟨_, rfl, by rw [← HK3.out]; exact hown.out, hbr⟩

/-- The digits of the first k bytes. -/
def hexDig (q : Nat) : ByteArray := (⟨#[48, 49, 50, 51, 52, 53, 54, 55, 56, 57, 97, 98, 99, 100, 101, 102]⟩ : ByteArray).extract q (q + 1)
def hexTo (s : ByteArray) : Nat → ByteArray
  | 0 => ByteArray.empty
  | k + 1 => (hexTo s k ++ hexDig ((natsOf s).getD k 0 / 16)) ++ hexDig ((natsOf s).getD k 0 % 16)

theorem hexDig_size (q : Nat) : (hexDig q).size ≤ 16 := by unfold hexDig; rw [ByteArray.size_extract]; exact Nat.le_trans (Nat.sub_le _ _) (Nat.min_le_right _ _)
theorem hexTo_size (s : ByteArray) : ∀ k, (hexTo s k).size ≤ 32 * k
  | 0 => by simp [hexTo]
  | k + 1 => by
    have h1 := hexTo_size s k
    have h2 := hexDig_size ((natsOf s).getD k 0 / 16)
    have h3 := hexDig_size ((natsOf s).getD k 0 % 16)
    simp only [hexTo, ByteArray.size_append]; omega
set_option maxRecDepth 100000 in
set_option maxHeartbeats 2000000 in
theorem hex_any (s : ByteArray) (hs : s.size ≤ 1000) (w : World) :
    Calls Tryd.prog 39 #[.string s] w fun e w' => e = .returned (.string (hexTo s s.size)) ∧ Below w.heap.size w w' := by
  go_enter Tryd.func39, Tryd.ntmps39
  go_wp2_with fail
  go_loopw [3, 4] (fun v i wr => ∃ k : Nat, k ≤ s.size ∧ i = .int .i64 k ∧ v = .string (hexTo s k) ∧ Below w.heap.size w wr) (fun _ i _ => s.size - (RowKit.intOf i).toNat)
  case atStart => exact ⟨0, Nat.zero_le _, rfl, rfl, Below.refl _ _⟩
  case round =>
    obtain ⟨k, hk, rfl, rfl, hbr⟩ := hrel
    by_cases hlt : k < s.size
    · have hk1 : (k : Int) < (s.size : Int) := by omega
      have hbyte : (natsOf s).getD k 0 = s[k].toNat := by simp [natsOf, hlt]; rfl
      have hb8 := s[k].toNat_lt
      have hnext : hexTo s (k + 1) = (hexTo s k ++ hexDig (s[k].toNat / 16)) ++ hexDig (s[k].toNat % 16) := by rw [hexTo, hbyte]
      have hix : ∀ w, (Instr.index 9 (.string s) (.int .i64 (k : Nat))).run Tryd.prog w = .ok (.int .u8 ((s[k].toNat : Nat) : Int)) w := by
        intro w
        have h0 : (0 : Int) ≤ (k : Int) := by omega
        simp [Instr.index, asIntOf, run_underlying Tryd.underlying9, hlt]
      obtain ⟨x, hx⟩ : ∃ x, s[k].toNat = x := ⟨_, rfl⟩
      rw [hx] at hnext hix hb8
      obtain ⟨q1, hq1⟩ : ∃ q, x / 16 = q := ⟨_, rfl⟩
      obtain ⟨q2, hq2⟩ : ∃ q, x % 16 = q := ⟨_, rfl⟩
      rw [hq1, hq2] at hnext
      have a1 : (x : Int) / 16 = (q1 : Int) := by omega
      have a2 : (x : Int) % 16 = (q2 : Int) := by omega
      have a3 : IntKind.u8.wrap ((q1 : Int) + 1) = (q1 : Int) + 1 := by simp [IntKind.wrap, IntKind.bits, IntKind.signed]; omega
      have a4 : IntKind.u8.wrap ((q2 : Int) + 1) = (q2 : Int) + 1 := by simp [IntKind.wrap, IntKind.bits, IntKind.signed]; omega
      have a5 : IntKind.u8.wrap (q1 : Int) = (q1 : Int) := by simp [IntKind.wrap, IntKind.bits, IntKind.signed]; omega
      have a6 : IntKind.u8.wrap (q2 : Int) = (q2 : Int) := by simp [IntKind.wrap, IntKind.bits, IntKind.signed]; omega
      have hd : ∀ q : Nat, q < 16 → ∀ w, (Instr.slice 9 (.string { data := #[48, 49, 50, 51, 52, 53, 54, 55, 56, 57, 97, 98, 99, 100, 101, 102] }) (some (.int .u8 (q : Nat))) (some (.int .u8 ((q : Int) + 1))) none).run Tryd.prog w = .ok (.string (hexDig q)) w := by
        intro q hq w
        rw [run_slice_string w 9 _ .u8 .u8 _ _ Tryd.underlying9 (by omega) (by omega) (by show _ ≤ ((16 : Nat) : Int); omega)]
        rfl
      have d1 := hd q1 (by omega)
      have d2 := hd q2 (by omega)
      have hq1l : (q1 : Int) < 16 := by omega
      have hq2l : (q2 : Int) < 16 := by omega
      have z0 := hexTo_size s k
      have z1 := hexDig_size q1
      have z2 := hexDig_size q2
      obtain ⟨D1, hD1⟩ : ∃ d, hexDig q1 = d := ⟨_, rfl⟩
      obtain ⟨D2, hD2⟩ : ∃ d, hexDig q2 = d := ⟨_, rfl⟩
      rw [hD1] at d1 hnext z1
      rw [hD2] at d2 hnext z2
      obtain ⟨P, hP⟩ : ∃ p, hexTo s k = p := ⟨_, rfl⟩
      rw [hP] at hnext z0 ⊢
      have hc1 : P.size + D1.size ≤ 9223372036854775807 := by omega
      have hc3 : P.size + D1.size + D2.size ≤ 9223372036854775807 := by omega
      have HN := Lib.hid hnext; have HB := Lib.hid hbr
      clear z0 z1 z2 hnext hbyte hd hx hq1 hq2 hD1 hD2 hP hbr
      go_wp2_with fail
      go_quiet (fail)
      go_wp2
      go_roundw
      case rel => exact ⟨k + 1, by omega, by go_num, by rw [HN.out], below_drewN HB.out _⟩
      case measure => simp [RowKit.intOf]; omega
    · have hk3 : k = s.size := by omega
      have HK3 := Lib.hid hk3
      clear hk3
      go_wp2_with fail
      go_ret
      exact ⟨ret_str (by rw [HK3.out]), hbr⟩

theorem binary_any (n : Nat) (hn : n ≤ 1000) (w : World) :
    Calls Tryd.prog 33 #[.int .i64 (n : Nat)] w fun e w' => (∃ k : Nat, e = .returned (.int .i64 (k : Nat)) ∧ n < 2 ^ k ∧ k ≤ 1000) ∧ w = w' := by
  go_enter Tryd.func33, Tryd.ntmps33
  go_wp2_with fail
  go_loop [0, 3] (fun vn vk => ∃ (m k : Nat), vn = .int .i64 (m : Nat) ∧ vk = .int .i64 (k : Nat) ∧ m ≤ 1000 ∧ k + m ≤ n ∧ Hid (n < (m + 1) * 2 ^ k)) (fun vn _ => (RowKit.intOf vn).toNat)
  case atStart => exact ⟨n, 0, rfl, rfl, hn, by omega, (by omega : n < (n + 1) * 2 ^ 0)⟩
  case round =>
    obtain ⟨m, k, rfl, rfl, hm, hkm, hlt⟩ := hrel
    by_cases hc : 0 < m
    · have hc2 : (0 : Int) < (m : Int) := by omega
      have hnx : Hid (n < (m / 2 + 1) * 2 ^ (k + 1)) := by
        show n < (m / 2 + 1) * 2 ^ (k + 1)
        refine Nat.lt_of_lt_of_le hlt.out ?_
        rw [Nat.pow_succ, Nat.mul_comm (2 ^ k) 2, ← Nat.mul_assoc]
        exact Nat.mul_le_mul_right _ (by omega)
      go_wp2
      go_round
      case rel => exact ⟨m / 2, k + 1, by go_num, by go_num, by omega, by omega, hnx⟩
      case measure => simp [RowKit.intOf]; omega
    · have hm0 : m = 0 := by omega
      have hc2 : ¬ (0 : Int) < (m : Int) := by omega
      have hnx : Hid (n < 2 ^ k) := by have := hlt.out; rw [hm0] at this; exact (by omega : n < 2 ^ k)
      clear hm0
      go_wp2
      go_ret
      exact ⟨⟨k, rfl, hnx.out, by omega⟩, rfl⟩

set_option maxHeartbeats 400000 in
theorem left_any (n : Nat) (h2 : 2 ≤ n) (hn : n ≤ 9223372036854775807) (w : World) :
    Calls Tryd.prog 38 #[.int .i64 (n : Nat)] w fun e w' => e = .returned (.int .i64 ((splitN n : Nat) : Int)) ∧ w = w' := by
  go_enter Tryd.func38, Tryd.ntmps38
  go_wp2_with fail
  go_loop [3] (fun v => ∃ (e : Nat), v = .int .i64 ((2 ^ e : Nat) : Int) ∧ Hid (2 ^ e < n)) (fun v => n - (RowKit.intOf v).toNat)
  case atStart => exact ⟨0, rfl, (by show 2 ^ 0 < n; omega)⟩
  case round =>
    obtain ⟨e, rfl, he⟩ := hrel
    have h0 := Nat.one_le_two_pow (n := e)
    have hlt := he.out
    have hd : 2 ^ (e + 1) = 2 * 2 ^ e := by rw [Nat.pow_succ]; omega
    have hs := splitN_of_pow (n := n) (e := e)
    obtain ⟨k, hk⟩ : ∃ k, 2 ^ e = k := ⟨_, rfl⟩
    rw [hk] at h0 hlt hd hs ⊢
    have HD := Lib.hid hd; have HS := Lib.hid hs
    clear hd hs he
    by_cases hc : k < n - k
    · have hc2 : (k : Int) < (n : Int) - (k : Int) := by omega
      go_wp2
      go_round
      case rel => exact ⟨e + 1, by rw [HD.out]; go_num, (by rw [HD.out]; omega : 2 ^ (e + 1) < n)⟩
      case measure => simp [RowKit.intOf]; omega
    · have hc2 : ¬ (k : Int) < (n : Int) - (k : Int) := by omega
      have hfin := HS.out hlt (by omega)
      have HF := Lib.hid hfin
      clear hfin
      go_wp2
      go_ret
      exact ⟨ret_w (nat_cast HF.out), rfl⟩
end Go.Proofs.YtoaaelnmbpmbeaaDoor
