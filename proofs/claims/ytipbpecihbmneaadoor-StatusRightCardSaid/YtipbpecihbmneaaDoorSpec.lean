/- SHA-256 over lists of numbers: the definition, and that a step of the machine is a step of the definition. No condition. -/
import Derived.Test.YtipbpecihbmneaaDoorSc
import Derived.Laws.BitsAllLaws
namespace Go.Proofs.YtipbpecihbmneaaDoor
open Go.RowKit

/-! Words of 32 bits as numbers. -/
def xo (a b : Nat) : Nat := (a ^^^ b) % 4294967296
def an (a b : Nat) : Nat := (a &&& b) % 4294967296
def og (a b : Nat) : Nat := (a ||| b) % 4294967296
def ad (a b : Nat) : Nat := (a + b) % 4294967296
def no (a : Nat) : Nat := xo 4294967295 a
def rr (x n : Nat) : Nat := og (x / 2 ^ n) (x * 2 ^ (32 - n) % 4294967296)
def sh (x n : Nat) : Nat := x / 2 ^ n
def sl (x n : Nat) : Nat := x * 2 ^ n % 4294967296

theorem ofInt_nat (a : Nat) : (BitVec.ofInt 32 (a : Int)).toNat = a % 4294967296 := by
  rw [BitVec.ofInt_natCast]; rfl
theorem wrap_nat (a : Nat) : IntKind.u32.wrap (a : Int) = ((a % 4294967296 : Nat) : Int) := by
  rw [IntKind.wrap_u32']; omega
theorem bits_xo (a b : Nat) : bits .xor .u32 (a : Int) (b : Int) = ((xo a b : Nat) : Int) := by
  show IntKind.u32.wrap ((BitVec.ofInt 32 (a : Int) ^^^ BitVec.ofInt 32 (b : Int)).toNat : Int) = _
  rw [BitVec.toNat_xor, ofInt_nat, ofInt_nat, wrap_nat]
  congr 1
  unfold xo
  rw [show (4294967296 : Nat) = 2 ^ 32 from rfl, Nat.xor_mod_two_pow, Nat.xor_mod_two_pow]
  simp
theorem bits_an (a b : Nat) : bits .and .u32 (a : Int) (b : Int) = ((an a b : Nat) : Int) := by
  show IntKind.u32.wrap ((BitVec.ofInt 32 (a : Int) &&& BitVec.ofInt 32 (b : Int)).toNat : Int) = _
  rw [BitVec.toNat_and, ofInt_nat, ofInt_nat, wrap_nat]
  congr 1
  unfold an
  rw [show (4294967296 : Nat) = 2 ^ 32 from rfl, Nat.and_mod_two_pow, Nat.and_mod_two_pow]
  simp
theorem bits_og (a b : Nat) : bits .or .u32 (a : Int) (b : Int) = ((og a b : Nat) : Int) := by
  show IntKind.u32.wrap ((BitVec.ofInt 32 (a : Int) ||| BitVec.ofInt 32 (b : Int)).toNat : Int) = _
  rw [BitVec.toNat_or, ofInt_nat, ofInt_nat, wrap_nat]
  congr 1
  unfold og
  rw [show (4294967296 : Nat) = 2 ^ 32 from rfl, Nat.or_mod_two_pow, Nat.or_mod_two_pow]
  simp
theorem og_comm (a b : Nat) : og a b = og b a := by unfold og; rw [Nat.or_comm]

/-! The schedule of a piece. -/
def sg0 (x : Nat) : Nat := xo (xo (rr x 7) (rr x 18)) (sh x 3)
def sg1 (x : Nat) : Nat := xo (xo (rr x 17) (rr x 19)) (sh x 10)
def word (p : List Nat) (t : Nat) : Nat := og (og (og (sl (nth p (4 * t)) 24) (sl (nth p (4 * t + 1)) 16)) (sl (nth p (4 * t + 2)) 8)) (nth p (4 * t + 3))
def wnext (w : List Nat) (t : Nat) : Nat := ad (ad (ad (sg1 (nth w (t - 2))) (nth w (t - 7))) (sg0 (nth w (t - 15)))) (nth w (t - 16))
def sched (p : List Nat) : Nat → List Nat
  | 0 => []
  | t + 1 => sched p t ++ [if t < 16 then word p t else wnext (sched p t) t]
theorem sched_len (p : List Nat) : ∀ t, (sched p t).length = t
  | 0 => rfl
  | t + 1 => by rw [sched, List.length_append, sched_len p t]; rfl

/-! A round. -/
structure S8 where
  (a b c d e f g h : Nat)
def bs1 (e : Nat) : Nat := xo (xo (rr e 6) (rr e 11)) (rr e 25)
def bs0 (a : Nat) : Nat := xo (xo (rr a 2) (rr a 13)) (rr a 22)
def rnd (k w : Nat) (s : S8) : S8 :=
  let one := ad (ad (ad (ad s.h (bs1 s.e)) (xo (an s.e s.f) (an (no s.e) s.g))) k) w
  let two := ad (bs0 s.a) (xo (xo (an s.a s.b) (an s.a s.c)) (an s.b s.c))
  ⟨ad one two, s.a, s.b, s.c, ad s.d one, s.e, s.f, s.g⟩
def kTab : List Nat := [0x428a2f98, 0x71374491, 0xb5c0fbcf, 0xe9b5dba5, 0x3956c25b, 0x59f111f1, 0x923f82a4, 0xab1c5ed5,
  0xd807aa98, 0x12835b01, 0x243185be, 0x550c7dc3, 0x72be5d74, 0x80deb1fe, 0x9bdc06a7, 0xc19bf174,
  0xe49b69c1, 0xefbe4786, 0x0fc19dc6, 0x240ca1cc, 0x2de92c6f, 0x4a7484aa, 0x5cb0a9dc, 0x76f988da,
  0x983e5152, 0xa831c66d, 0xb00327c8, 0xbf597fc7, 0xc6e00bf3, 0xd5a79147, 0x06ca6351, 0x14292967,
  0x27b70a85, 0x2e1b2138, 0x4d2c6dfc, 0x53380d13, 0x650a7354, 0x766a0abb, 0x81c2c92e, 0x92722c85,
  0xa2bfe8a1, 0xa81a664b, 0xc24b8b70, 0xc76c51a3, 0xd192e819, 0xd6990624, 0xf40e3585, 0x106aa070,
  0x19a4c116, 0x1e376c08, 0x2748774c, 0x34b0bcb5, 0x391c0cb3, 0x4ed8aa4a, 0x5b9cca4f, 0x682e6ff3,
  0x748f82ee, 0x78a5636f, 0x84c87814, 0x8cc70208, 0x90befffa, 0xa4506ceb, 0xbef9a3f7, 0xc67178f2]
def rnds (w : List Nat) (s : S8) : Nat → S8
  | 0 => s
  | t + 1 => rnd (nth kTab t) (nth w t) (rnds w s t)
def s8 (h : List Nat) : S8 := ⟨nth h 0, nth h 1, nth h 2, nth h 3, nth h 4, nth h 5, nth h 6, nth h 7⟩
def comp (h p : List Nat) : List Nat :=
  let r := rnds (sched p 64) (s8 h) 64
  [ad (nth h 0) r.a, ad (nth h 1) r.b, ad (nth h 2) r.c, ad (nth h 3) r.d, ad (nth h 4) r.e, ad (nth h 5) r.f, ad (nth h 6) r.g, ad (nth h 7) r.h]
def h0 : List Nat := [0x6a09e667, 0xbb67ae85, 0x3c6ef372, 0xa54ff53a, 0x510e527f, 0x9b05688c, 0x1f83d9ab, 0x5be0cd19]
/-- The first n pieces of a text. -/
def pieces (L : List Nat) : Nat → List Nat
  | 0 => h0
  | n + 1 => comp (pieces L n) ((L.drop (64 * n)).take 64)
def byteAt (h : List Nat) (i : Nat) : Nat := (nth h (i / 4) / 2 ^ (24 - 8 * (i % 4))) % 256
def bytesS (h : List Nat) : List Nat := (List.range 32).map (byteAt h)
/-- The text of bytes: a mark, noughts, and how many bits. -/
def gapN (n : Nat) : Nat := (119 - n % 64) % 64
def bits8 (n : Nat) : List Nat := (List.range 8).map fun i => n * 8 % 18446744073709551616 / 2 ^ (56 - 8 * i) % 256
def text (L : List Nat) : List Nat := L ++ 128 :: List.replicate (gapN L.length) 0 ++ bits8 L.length
def shaS (L : List Nat) : List Nat := bytesS (pieces (text L) ((text L).length / 64))
theorem gap_full (n : Nat) : (n + 1 + gapN n + 8) % 64 = 0 := by unfold gapN; omega
end Go.Proofs.YtipbpecihbmneaaDoor
