/-
  Plain mathematics of layer 2: SHA-256 of a list of bytes, over natural numbers.
-/
namespace Go.Proofs.YtdolmahodhgfpaaDoor

def add32 (a b : Nat) : Nat := (a + b) % 4294967296
/-- x rotated right by n bits. -/
def rotr (x n : Nat) : Nat := (x * 2 ^ (32 - n) % 4294967296) ||| (x / 2 ^ n)
def sg0 (x : Nat) : Nat := (rotr x 7 ^^^ rotr x 18) ^^^ (x / 8)
def sg1 (x : Nat) : Nat := (rotr x 17 ^^^ rotr x 19) ^^^ (x / 1024)
def bS1 (e : Nat) : Nat := (rotr e 6 ^^^ rotr e 11) ^^^ rotr e 25
def bS0 (a : Nat) : Nat := (rotr a 2 ^^^ rotr a 13) ^^^ rotr a 22
def chF (e f g : Nat) : Nat := (e &&& f) ^^^ ((4294967295 - e) &&& g)
def majF (a b c : Nat) : Nat := ((a &&& b) ^^^ (a &&& c)) ^^^ (b &&& c)

def shaK : List Nat := [
  0x428a2f98, 0x71374491, 0xb5c0fbcf, 0xe9b5dba5, 0x3956c25b, 0x59f111f1, 0x923f82a4, 0xab1c5ed5,
  0xd807aa98, 0x12835b01, 0x243185be, 0x550c7dc3, 0x72be5d74, 0x80deb1fe, 0x9bdc06a7, 0xc19bf174,
  0xe49b69c1, 0xefbe4786, 0x0fc19dc6, 0x240ca1cc, 0x2de92c6f, 0x4a7484aa, 0x5cb0a9dc, 0x76f988da,
  0x983e5152, 0xa831c66d, 0xb00327c8, 0xbf597fc7, 0xc6e00bf3, 0xd5a79147, 0x06ca6351, 0x14292967,
  0x27b70a85, 0x2e1b2138, 0x4d2c6dfc, 0x53380d13, 0x650a7354, 0x766a0abb, 0x81c2c92e, 0x92722c85,
  0xa2bfe8a1, 0xa81a664b, 0xc24b8b70, 0xc76c51a3, 0xd192e819, 0xd6990624, 0xf40e3585, 0x106aa070,
  0x19a4c116, 0x1e376c08, 0x2748774c, 0x34b0bcb5, 0x391c0cb3, 0x4ed8aa4a, 0x5b9cca4f, 0x682e6ff3,
  0x748f82ee, 0x78a5636f, 0x84c87814, 0x8cc70208, 0x90befffa, 0xa4506ceb, 0xbef9a3f7, 0xc67178f2]
def shaIV : List Nat := [0x6a09e667, 0xbb67ae85, 0x3c6ef372, 0xa54ff53a, 0x510e527f, 0x9b05688c, 0x1f83d9ab, 0x5be0cd19]

/-- Word i of the schedule from those before it. -/
def wNext (l : List Nat) : Nat :=
  add32 (add32 (add32 (l.getD (l.length - 16) 0) (sg0 (l.getD (l.length - 15) 0))) (l.getD (l.length - 7) 0)) (sg1 (l.getD (l.length - 2) 0))
/-- Word i of a block: four bytes, the highest one first. -/
def beW (b : List Nat) (i : Nat) : Nat := ((b.getD (4 * i) 0 * 256 + b.getD (4 * i + 1) 0) * 256 + b.getD (4 * i + 2) 0) * 256 + b.getD (4 * i + 3) 0
/-- The first 16 + k words of the schedule. -/
def sched (b : List Nat) : Nat → List Nat
  | 0 => (List.range 16).map (beW b)
  | k + 1 => sched b k ++ [wNext (sched b k)]
theorem sched_length (b : List Nat) : ∀ k, (sched b k).length = 16 + k
  | 0 => by simp [sched]
  | k + 1 => by simp [sched, sched_length b k]; omega

/-- One round, on the eight words. -/
def shaT (e f g h k w : Nat) : Nat := add32 (add32 (add32 (add32 h (bS1 e)) (chF e f g)) k) w
def shaU (a b c : Nat) : Nat := add32 (bS0 a) (majF a b c)
def rnd (k w : Nat) : List Nat → List Nat
  | [a, b, c, d, e, f, g, h] => [add32 (shaT e f g h k w) (shaU a b c), a, b, c, add32 d (shaT e f g h k w), e, f, g]
  | l => l
/-- The first n rounds. -/
def rnds (W : List Nat) (s : List Nat) : Nat → List Nat
  | 0 => s
  | n + 1 => rnd (shaK.getD n 0) (W.getD n 0) (rnds W s n)
def addL : List Nat → List Nat → List Nat
  | a :: s, b :: t => add32 a b :: addL s t
  | _, _ => []
/-- What the words s become with a block. -/
def comp (s : List Nat) (b : List Nat) : List Nat := addL s (rnds (sched b 48) s 64)

/-- The number of zero bytes. -/
def padZ (n : Nat) : Nat := (119 - n % 64) % 64
def be8 (n : Nat) : List Nat := (List.range 8).map fun i => n / 256 ^ (7 - i) % 256
/-- The bytes with what extends them. -/
def shaPad (l : List Nat) : List Nat := l ++ (128 :: (List.replicate (padZ l.length) 0 ++ be8 (8 * l.length)))
theorem shaPad_length (l : List Nat) : (shaPad l).length = l.length + 1 + padZ l.length + 8 := by
  simp [shaPad, be8]; omega
theorem shaPad_mod (l : List Nat) : (shaPad l).length % 64 = 0 := by
  rw [shaPad_length]; unfold padZ; omega

/-- The first n blocks of 64 bytes of a list. -/
def cutB (l : List Nat) : Nat → List (List Nat)
  | 0 => []
  | n + 1 => l.take 64 :: cutB (l.drop 64) n
def shaBlocks (l : List Nat) : List (List Nat) := cutB (shaPad l) ((shaPad l).length / 64)
def word4 (w : Nat) : List Nat := [w / 16777216 % 256, w / 65536 % 256, w / 256 % 256, w % 256]
def shaN (l : List Nat) : List Nat := ((shaBlocks l).foldl comp shaIV).flatMap word4
def natsOf (s : ByteArray) : List Nat := s.data.toList.map UInt8.toNat
/-- The digest of a string. -/
def sha (s : ByteArray) : ByteArray := ⟨((shaN (natsOf s)).map Nat.toUInt8).toArray⟩

theorem addL_length : ∀ (s t : List Nat), s.length = t.length → (addL s t).length = s.length
  | [], [], _ => rfl
  | a :: s, b :: t, h => by simp [addL, addL_length s t (by simpa using h)]
theorem rnd_length (k w : Nat) (s : List Nat) (h : s.length = 8) : (rnd k w s).length = 8 := by
  match s, h with
  | [a, b, c, d, e, f, g, h], _ => rfl
theorem rnds_length (W s : List Nat) (h : s.length = 8) : ∀ n, (rnds W s n).length = 8
  | 0 => h
  | n + 1 => rnd_length _ _ _ (rnds_length W s h n)
theorem comp_length (s b : List Nat) (h : s.length = 8) : (comp s b).length = 8 := by
  unfold comp; rw [addL_length _ _ (by rw [rnds_length _ _ h, h]), h]
theorem foldl_comp_length : ∀ (bs : List (List Nat)) (s : List Nat), s.length = 8 → (bs.foldl comp s).length = 8
  | [], _, h => h
  | b :: bs, s, h => foldl_comp_length bs _ (comp_length s b h)
theorem word4s_length : ∀ (l : List Nat), (l.flatMap word4).length = 4 * l.length
  | [] => rfl
  | a :: l => by rw [List.flatMap_cons, List.length_append, word4s_length l]; simp [word4]; omega
theorem shaN_length (l : List Nat) : (shaN l).length = 32 := by
  unfold shaN; rw [word4s_length, foldl_comp_length _ _ rfl]
end Go.Proofs.YtdolmahodhgfpaaDoor
