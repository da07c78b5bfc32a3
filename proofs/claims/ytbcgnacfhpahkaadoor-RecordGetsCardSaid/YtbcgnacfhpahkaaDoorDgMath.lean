/- The digest of bytes, as functions: words, rounds, blocks. No program is named here. -/
import Derived.WalkKit
namespace Go.Proofs.YtbcgnacfhpahkaaDoor.DM
/-- a word, turned to the right -/
def rr (x : UInt32) (n : Nat) : UInt32 := UInt32.ofNat ((x.toNat * 2 ^ (32 - n)) % 4294967296 ||| x.toNat / 2 ^ n)
structure St where
  a : UInt32
  b : UInt32
  c : UInt32
  d : UInt32
  e : UInt32
  f : UInt32
  g : UInt32
  h : UInt32
def low (s : St) (k w : UInt32) : UInt32 := s.h + (rr s.e 6 ^^^ rr s.e 11 ^^^ rr s.e 25) + (s.e &&& s.f ^^^ ~~~s.e &&& s.g) + k + w
def high (s : St) : UInt32 := (rr s.a 2 ^^^ rr s.a 13 ^^^ rr s.a 22) + (s.a &&& s.b ^^^ s.a &&& s.c ^^^ s.b &&& s.c)
def step (s : St) (k w : UInt32) : St := ⟨low s k w + high s, s.a, s.b, s.c, s.d + low s k w, s.e, s.f, s.g⟩
def roundsN (s : St) (ks ws : List UInt32) : Nat → St
  | 0 => s
  | t + 1 => step (roundsN s ks ws t) (ks.getD t 0) (ws.getD t 0)
def addS (s t : St) : St := ⟨s.a + t.a, s.b + t.b, s.c + t.c, s.d + t.d, s.e + t.e, s.f + t.f, s.g + t.g, s.h + t.h⟩
def roots : List UInt32 := [0x6a09e667, 0xbb67ae85, 0x3c6ef372, 0xa54ff53a, 0x510e527f, 0x9b05688c, 0x1f83d9ab, 0x5be0cd19]
def cubes : List UInt32 := [
  0x428a2f98, 0x71374491, 0xb5c0fbcf, 0xe9b5dba5, 0x3956c25b, 0x59f111f1, 0x923f82a4, 0xab1c5ed5,
  0xd807aa98, 0x12835b01, 0x243185be, 0x550c7dc3, 0x72be5d74, 0x80deb1fe, 0x9bdc06a7, 0xc19bf174,
  0xe49b69c1, 0xefbe4786, 0x0fc19dc6, 0x240ca1cc, 0x2de92c6f, 0x4a7484aa, 0x5cb0a9dc, 0x76f988da,
  0x983e5152, 0xa831c66d, 0xb00327c8, 0xbf597fc7, 0xc6e00bf3, 0xd5a79147, 0x06ca6351, 0x14292967,
  0x27b70a85, 0x2e1b2138, 0x4d2c6dfc, 0x53380d13, 0x650a7354, 0x766a0abb, 0x81c2c92e, 0x92722c85,
  0xa2bfe8a1, 0xa81a664b, 0xc24b8b70, 0xc76c51a3, 0xd192e819, 0xd6990624, 0xf40e3585, 0x106aa070,
  0x19a4c116, 0x1e376c08, 0x2748774c, 0x34b0bcb5, 0x391c0cb3, 0x4ed8aa4a, 0x5b9cca4f, 0x682e6ff3,
  0x748f82ee, 0x78a5636f, 0x84c87814, 0x8cc70208, 0x90befffa, 0xa4506ceb, 0xbef9a3f7, 0xc67178f2]
def start : St := ⟨0x6a09e667, 0xbb67ae85, 0x3c6ef372, 0xa54ff53a, 0x510e527f, 0x9b05688c, 0x1f83d9ab, 0x5be0cd19⟩
/-- the number that bytes are, the highest first -/
def wd (l : List UInt8) : Nat := l.foldl (fun n x => 256 * n + x.toNat) 0
/-- word number t of a block -/
def word (b : List UInt8) (t : Nat) : UInt32 := UInt32.ofNat (wd ((b.drop (4 * t)).take 4))
def near (x : UInt32) : UInt32 := rr x 17 ^^^ rr x 19 ^^^ x >>> 10
def far (x : UInt32) : UInt32 := rr x 7 ^^^ rr x 18 ^^^ x >>> 3
def made (ws : List UInt32) (t : Nat) : UInt32 := ws.getD (t - 16) 0 + far (ws.getD (t - 15) 0) + ws.getD (t - 7) 0 + near (ws.getD (t - 2) 0)
/-- the first t words of a block -/
def wordsN (b : List UInt8) : Nat → List UInt32
  | 0 => []
  | t + 1 => wordsN b t ++ [if t < 16 then word b t else made (wordsN b t) t]
theorem wordsN_len (b : List UInt8) : ∀ t, (wordsN b t).length = t
  | 0 => rfl
  | t + 1 => by rw [wordsN, List.length_append, wordsN_len b t]; rfl
def mixed (s : St) (ws : List UInt32) : St := addS s (roundsN s cubes ws 64)
/-- a block -/
def blk64 (l : List UInt8) (k : Nat) : List UInt8 := (l.drop (64 * k)).take 64
/-- the state behind the first k blocks -/
def stN (l : List UInt8) : Nat → St
  | 0 => start
  | k + 1 => mixed (stN l k) (wordsN (blk64 l k) 64)
/-- a word's four bytes -/
def bytes4 (x : UInt32) : List UInt8 := [UInt8.ofNat (x.toNat / 16777216), UInt8.ofNat (x.toNat / 65536), UInt8.ofNat (x.toNat / 256), UInt8.ofNat x.toNat]
def stL (s : St) : List UInt32 := [s.a, s.b, s.c, s.d, s.e, s.f, s.g, s.h]
def outS (s : St) : List UInt8 := (stL s).flatMap bytes4
/-- what stands behind all bytes -/
def ending (n : Nat) : List UInt8 := 128 :: (List.replicate ((119 - n % 64) % 64) 0 ++ bytes4 (UInt32.ofNat (8 * n / 4294967296)) ++ bytes4 (UInt32.ofNat (8 * n)))
def padded (l : List UInt8) : List UInt8 := l ++ ending l.length
def digest (l : List UInt8) : List UInt8 := outS (stN (padded l) ((padded l).length / 64))
theorem abc : (digest [97, 98, 99]).getD 0 0 = 0xba ∧ (digest [97, 98, 99]).getD 1 0 = 0x78 ∧ (digest [97, 98, 99]).getD 31 0 = 0xad := by decide +kernel
#print axioms abc
end Go.Proofs.YtbcgnacfhpahkaaDoor.DM
