/-
  Plain mathematics of layer 2: SHA-256 of a list of bytes, over natural numbers. Plain mathematics of layer 2: the tree of digests over any digest function; roots, proofs of entries and of beginnings, and what they bind. Plain mathematics of layer 2: what proofs show, how long they are, and what two proofs of different entries or beginnings contain.
-/
set_option maxRecDepth 100000
set_option maxHeartbeats 16000000
namespace Go.Proofs.YtnpfhcnjkekhbaaGreatDoor
def add32 (a b : Nat) : Nat := (a + b) % 4294967296
def rotr (x n : Nat) : Nat := (x * 2 ^ (32 - n) % 4294967296) ||| (x / 2 ^ n)
def sg0 (x : Nat) : Nat := (rotr x 7 ^^^ rotr x 18) ^^^ (x / 8)
def sg1 (x : Nat) : Nat := (rotr x 17 ^^^ rotr x 19) ^^^ (x / 1024)
def bS1 (e : Nat) : Nat := (rotr e 6 ^^^ rotr e 11) ^^^ rotr e 25
def bS0 (a : Nat) : Nat := (rotr a 2 ^^^ rotr a 13) ^^^ rotr a 22
def chF (e f g : Nat) : Nat := (e &&& f) ^^^ ((4294967295 - e) &&& g)
def majF (a b c : Nat) : Nat := ((a &&& b) ^^^ (a &&& c)) ^^^ (b &&& c)
def shaK : List Nat := [
 0x428a2f98, 0x71374491, 0xb5c0fbcf, 0xe9b5dba5, 0x3956c25b, 0x59f111f1, 0x923f82a4, 0xab1c5ed5,
 0xd807aa98, 0x12835b01, 0x243185be, 0x550c7dc3, 0x72be5d74, 0x80deb1fe, 0x9bdc06a7, 0xc19bf174,
 0xe49b69c1, 0xefbe4786, 0x0fc19dc6, 0x240ca1cc, 0x2de92c6f, 0x4a7484aa, 0x5cb0a9dc, 0x76f988da,
 0x983e5152, 0xa831c66d, 0xb00327c8, 0xbf597fc7, 0xc6e00bf3, 0xd5a79147, 0x06ca6351, 0x14292967,
 0x27b70a85, 0x2e1b2138, 0x4d2c6dfc, 0x53380d13, 0x650a7354, 0x766a0abb, 0x81c2c92e, 0x92722c85,
 0xa2bfe8a1, 0xa81a664b, 0xc24b8b70, 0xc76c51a3, 0xd192e819, 0xd6990624, 0xf40e3585, 0x106aa070,
 0x19a4c116, 0x1e376c08, 0x2748774c, 0x34b0bcb5, 0x391c0cb3, 0x4ed8aa4a, 0x5b9cca4f, 0x682e6ff3,
 0x748f82ee, 0x78a5636f, 0x84c87814, 0x8cc70208, 0x90befffa, 0xa4506ceb, 0xbef9a3f7, 0xc67178f2]
def shaIV : List Nat := [0x6a09e667, 0xbb67ae85, 0x3c6ef372, 0xa54ff53a, 0x510e527f, 0x9b05688c, 0x1f83d9ab, 0x5be0cd19]
def wNext (l : List Nat) : Nat :=
 add32 (add32 (add32 (l.getD (l.length - 16) 0) (sg0 (l.getD (l.length - 15) 0))) (l.getD (l.length - 7) 0)) (sg1 (l.getD (l.length - 2) 0))
def beW (b : List Nat) (i : Nat) : Nat := ((b.getD (4 * i) 0 * 256 + b.getD (4 * i + 1) 0) * 256 + b.getD (4 * i + 2) 0) * 256 + b.getD (4 * i + 3) 0
def sched (b : List Nat) : Nat → List Nat
 | 0 => (List.range 16).map (beW b)
 | k + 1 => sched b k ++ [wNext (sched b k)]
theorem sched_length (b : List Nat) : ∀ k, (sched b k).length = 16 + k
 | 0 => by simp [sched]
 | k + 1 => by simp [sched, sched_length b k]; omega
def shaT (e f g h k w : Nat) : Nat := add32 (add32 (add32 (add32 h (bS1 e)) (chF e f g)) k) w
def shaU (a b c : Nat) : Nat := add32 (bS0 a) (majF a b c)
def rnd (k w : Nat) : List Nat → List Nat
 | [a, b, c, d, e, f, g, h] => [add32 (shaT e f g h k w) (shaU a b c), a, b, c, add32 d (shaT e f g h k w), e, f, g]
 | l => l
def rnds (W : List Nat) (s : List Nat) : Nat → List Nat
 | 0 => s
 | n + 1 => rnd (shaK.getD n 0) (W.getD n 0) (rnds W s n)
def addL : List Nat → List Nat → List Nat
 | a :: s, b :: t => add32 a b :: addL s t
 | _, _ => []
def comp (s : List Nat) (b : List Nat) : List Nat := addL s (rnds (sched b 48) s 64)
def padZ (n : Nat) : Nat := (119 - n % 64) % 64
def be8 (n : Nat) : List Nat := (List.range 8).map fun i => n / 256 ^ (7 - i) % 256
def shaPad (l : List Nat) : List Nat := l ++ (128 :: (List.replicate (padZ l.length) 0 ++ be8 (8 * l.length)))
theorem shaPad_length (l : List Nat) : (shaPad l).length = l.length + 1 + padZ l.length + 8 := by
 simp [shaPad, be8]; omega
theorem shaPad_mod (l : List Nat) : (shaPad l).length % 64 = 0 := by
 rw [shaPad_length]; unfold padZ; omega
def cutB (l : List Nat) : Nat → List (List Nat)
 | 0 => []
 | n + 1 => l.take 64 :: cutB (l.drop 64) n
def shaBlocks (l : List Nat) : List (List Nat) := cutB (shaPad l) ((shaPad l).length / 64)
def word4 (w : Nat) : List Nat := [w / 16777216 % 256, w / 65536 % 256, w / 256 % 256, w % 256]
def shaN (l : List Nat) : List Nat := ((shaBlocks l).foldl comp shaIV).flatMap word4
def natsOf (s : ByteArray) : List Nat := s.data.toList.map UInt8.toNat
def sha (s : ByteArray) : ByteArray := ⟨((shaN (natsOf s)).map Nat.toUInt8).toArray⟩
theorem addL_length : ∀ (s t : List Nat), s.length = t.length → (addL s t).length = s.length
 | [], [], _ => rfl
 | a :: s, b :: t, h => by simp [addL, addL_length s t (by simpa using h)]
theorem rnd_length (k w : Nat) (s : List Nat) (h : s.length = 8) : (rnd k w s).length = 8 := by
 match s, h with
 | [a, b, c, d, e, f, g, h], _ => rfl
theorem rnds_length (W s : List Nat) (h : s.length = 8) : ∀ n, (rnds W s n).length = 8
 | 0 => h
 | n + 1 => rnd_length _ _ _ (rnds_length W s h n)
theorem comp_length (s b : List Nat) (h : s.length = 8) : (comp s b).length = 8 := by
 unfold comp; rw [addL_length _ _ (by rw [rnds_length _ _ h, h]), h]
theorem foldl_comp_length : ∀ (bs : List (List Nat)) (s : List Nat), s.length = 8 → (bs.foldl comp s).length = 8
 | [], _, h => h
 | b :: bs, s, h => foldl_comp_length bs _ (comp_length s b h)
theorem word4s_length : ∀ (l : List Nat), (l.flatMap word4).length = 4 * l.length
 | [] => rfl
 | a :: l => by rw [List.flatMap_cons, List.length_append, word4s_length l]; simp [word4]; omega
theorem shaN_length (l : List Nat) : (shaN l).length = 32 := by
 unfold shaN; rw [word4s_length, foldl_comp_length _ _ rfl]
end Go.Proofs.YtnpfhcnjkekhbaaGreatDoor

namespace Go.Proofs.YtnpfhcnjkekhbaaGreatDoor
def splitN (n : Nat) : Nat := 2 ^ Nat.log2 (n - 1)
def tagged (t : UInt8) (s : ByteArray) : ByteArray := (⟨#[t]⟩ : ByteArray) ++ s
def leafF (s : ByteArray) : ByteArray := sha (tagged 0 s)
def nodeF (a b : ByteArray) : ByteArray := sha (tagged 1 (a ++ b))
def chainF (h r : ByteArray) : ByteArray := sha (tagged 2 (h ++ r))
def valR (n i : Nat) (s : ByteArray) : List ByteArray → Option ByteArray
 | [] => if n = 1 then some (leafF s) else none
 | x :: r => if n ≤ 1 then none
  else if i < splitN n then (valR (splitN n) i s r).map fun v => nodeF v x
  else (valR (n - splitN n) (i - splitN n) s r).map fun v => nodeF x v
def allDig (l : List ByteArray) : Bool := l.all fun s => s.size == 32
end Go.Proofs.YtnpfhcnjkekhbaaGreatDoor

namespace Go.Proofs.YtnpfhcnjkekhbaaGreatDoor
theorem sha_size (s : ByteArray) : (sha s).size = 32 := by
 show ((shaN (natsOf s)).map Nat.toUInt8).toArray.size = 32
 rw [List.size_toArray, List.length_map]
 exact shaN_length _
theorem leafF_size (s : ByteArray) : (leafF s).size = 32 := sha_size _
theorem nodeF_size (a b : ByteArray) : (nodeF a b).size = 32 := sha_size _
theorem valR_length : ∀ (r r' : List ByteArray) (n i : Nat) (s s' v v' : ByteArray), valR n i s r = some v → valR n i s' r' = some v' → r.length = r'.length
 | [], [], _, _, _, _, _, _, _, _ => rfl
 | [], x :: r, n, i, s, s', v, v', h, h' => by
  simp only [valR] at h h'
  by_cases hn : n = 1
  · rw [if_pos (by omega)] at h'; cases h'
  · rw [if_neg hn] at h; cases h
 | x :: r, [], n, i, s, s', v, v', h, h' => by
  simp only [valR] at h h'
  by_cases hn : n = 1
  · rw [if_pos (by omega)] at h; cases h
  · rw [if_neg hn] at h'; cases h'
 | x :: r, y :: r', n, i, s, s', v, v', h, h' => by
  simp only [valR] at h h'
  by_cases hn : n ≤ 1
  · rw [if_pos hn] at h; cases h
  · rw [if_neg hn] at h h'
    by_cases hi : i < splitN n
    · rw [if_pos hi, Option.map_eq_some_iff] at h h'
      obtain ⟨a, ha, _⟩ := h
      obtain ⟨b, hb, _⟩ := h'
      simp [valR_length r r' _ _ _ _ _ _ ha hb]
    · rw [if_neg hi, Option.map_eq_some_iff] at h h'
      obtain ⟨a, ha, _⟩ := h
      obtain ⟨b, hb, _⟩ := h'
      simp [valR_length r r' _ _ _ _ _ _ ha hb]
def wayV (n i : Nat) (s : ByteArray) : List ByteArray → ByteArray
 | [] => leafF s
 | x :: r => if n ≤ 1 then leafF s else if i < splitN n then nodeF (wayV (splitN n) i s r) x else nodeF x (wayV (n - splitN n) (i - splitN n) s r)
def wayR (n i : Nat) (s : ByteArray) : List ByteArray → List ByteArray
 | [] => [tagged 0 s]
 | x :: r => if n ≤ 1 then [tagged 0 s]
  else if i < splitN n then tagged 1 (wayV (splitN n) i s r ++ x) :: wayR (splitN n) i s r
  else tagged 1 (x ++ wayV (n - splitN n) (i - splitN n) s r) :: wayR (n - splitN n) (i - splitN n) s r
theorem wayV_of_val : ∀ (r : List ByteArray) (n i : Nat) (s v : ByteArray), valR n i s r = some v → wayV n i s r = v
 | [], n, i, s, v, h => by
  simp only [valR] at h
  split at h
  · exact Option.some.inj h
  · cases h
 | x :: r, n, i, s, v, h => by
  simp only [valR, wayV] at h ⊢
  split at h
  · cases h
  · rename_i hn
    rw [if_neg hn]
    split at h
    · rename_i hi
      rw [Option.map_eq_some_iff] at h
      obtain ⟨a, ha, rfl⟩ := h
      rw [if_pos hi, wayV_of_val r _ _ _ _ ha]
    · rename_i hi
      rw [Option.map_eq_some_iff] at h
      obtain ⟨a, ha, rfl⟩ := h
      rw [if_neg hi, wayV_of_val r _ _ _ _ ha]
def collB (x y : ByteArray) : Bool := decide (x ≠ y) && decide (sha x = sha y)
def collF (a b : List ByteArray) : Bool := (a.zip b).any fun p => collB p.1 p.2
theorem collF_cons (x y : ByteArray) (a b : List ByteArray) : collF (x :: a) (y :: b) = (collB x y || collF a b) := by simp [collF]
theorem ba_ext {a b : ByteArray} (h : a.data.toList = b.data.toList) : a = b := ByteArray.ext (Array.toList_inj.1 h)
theorem append_list (a b : ByteArray) : (a ++ b).data.toList = a.data.toList ++ b.data.toList := by simp [ByteArray.data_append]
theorem size_list (s : ByteArray) : s.data.toList.length = s.size := by simp
theorem tagged_inj {t : UInt8} {a b : ByteArray} (h : tagged t a = tagged t b) : a = b := by
 have := congrArg (fun s : ByteArray => s.data.toList) h
 simp only [tagged, append_list] at this
 exact ba_ext (List.append_cancel_left this)
theorem append_inj {a b c d : ByteArray} (h : a ++ b = c ++ d) (hs : a.size = c.size) : a = c ∧ b = d := by
 have := congrArg (fun s : ByteArray => s.data.toList) h
 simp only [append_list] at this
 have := List.append_inj this (by rw [size_list, size_list, hs])
 exact ⟨ba_ext this.1, ba_ext this.2⟩
theorem wayV_size (n i : Nat) (s : ByteArray) (r : List ByteArray) : (wayV n i s r).size = 32 := by
 cases r with
 | nil => exact leafF_size _
 | cons x r => simp only [wayV]; split; exact leafF_size _; split <;> exact nodeF_size _ _
theorem sha_ne {x y : ByteArray} (h : ¬ x = y) (e : sha x = sha y) : collB x y = true := by
 unfold collB; rw [Bool.and_eq_true, decide_eq_true_eq, decide_eq_true_eq]; exact ⟨h, e⟩
theorem binds : ∀ (r r' : List ByteArray) (n i : Nat) (s t v : ByteArray), valR n i s r = some v → valR n i t r' = some v → s ≠ t → allDig r = true → allDig r' = true →
 collF (wayR n i s r) (wayR n i t r') = true
 | [], [], n, i, s, t, v, h, h', hst, _, _ => by
  have e1 := wayV_of_val _ _ _ _ _ h
  have e2 := wayV_of_val _ _ _ _ _ h'
  simp only [wayV] at e1 e2
  simp only [wayR]
  rw [collF_cons, Bool.or_eq_true]
  exact .inl (sha_ne (fun e => hst (tagged_inj e)) (e1.trans e2.symm))
 | [], x :: r, n, i, s, t, v, h, h', _, _, _ => by have := valR_length _ _ _ _ _ _ _ _ h h'; simp at this
 | x :: r, [], n, i, s, t, v, h, h', _, _, _ => by have := valR_length _ _ _ _ _ _ _ _ h h'; simp at this
 | x :: r, y :: r', n, i, s, t, v, h, h', hst, hd, hd' => by
  simp only [allDig, List.all_cons, Bool.and_eq_true, beq_iff_eq] at hd hd'
  simp only [valR] at h h'
  by_cases hn : n ≤ 1
  · rw [if_pos hn] at h; cases h
  · rw [if_neg hn] at h h'
    simp only [wayR]
    rw [if_neg hn, if_neg hn]
    by_cases hi : i < splitN n
    · rw [if_pos hi, Option.map_eq_some_iff] at h h'
      obtain ⟨a, ha, hav⟩ := h
      obtain ⟨b, hb, hbv⟩ := h'
      rw [if_pos hi, if_pos hi, collF_cons, Bool.or_eq_true]
      have ea := wayV_of_val _ _ _ _ _ ha
      have eb := wayV_of_val _ _ _ _ _ hb
      by_cases he : tagged 1 (wayV (splitN n) i s r ++ x) = tagged 1 (wayV (splitN n) i t r' ++ y)
      · have := append_inj (tagged_inj he) (by rw [wayV_size, wayV_size])
        rw [ea, eb] at this
        obtain ⟨rfl, _⟩ := this
        exact .inr (binds r r' _ _ _ _ _ ha hb hst hd.2 hd'.2)
      · refine .inl (sha_ne he ?_)
        rw [ea, eb]
        exact hav.trans hbv.symm
    · rw [if_neg hi, Option.map_eq_some_iff] at h h'
      obtain ⟨a, ha, hav⟩ := h
      obtain ⟨b, hb, hbv⟩ := h'
      rw [if_neg hi, if_neg hi, collF_cons, Bool.or_eq_true]
      have ea := wayV_of_val _ _ _ _ _ ha
      have eb := wayV_of_val _ _ _ _ _ hb
      by_cases he : tagged 1 (x ++ wayV (n - splitN n) (i - splitN n) s r) = tagged 1 (y ++ wayV (n - splitN n) (i - splitN n) t r')
      · have := append_inj (tagged_inj he) (by rw [hd.1, hd'.1])
        rw [ea, eb] at this
        obtain ⟨_, rfl⟩ := this
        exact .inr (binds r r' _ _ _ _ _ ha hb hst hd.2 hd'.2)
      · refine .inl (sha_ne he ?_)
        rw [ea, eb]
        exact hav.trans hbv.symm
/-! ### Beginnings -/
end Go.Proofs.YtnpfhcnjkekhbaaGreatDoor
