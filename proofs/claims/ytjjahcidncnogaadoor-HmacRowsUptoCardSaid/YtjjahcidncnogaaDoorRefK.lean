/- Plain: the reference's primes, roots and words, as it reckons them. -/
import Derived.Test.YtjjahcidncnogaaDoorShaRound
namespace Go.Proofs.YtjjahcidncnogaaDoor
open Go.RowKit Go.Lib

/-- No number from d on, whose square is at most p, divides p. -/
def trial (p : Nat) : Nat → Nat → Bool
  | 0, _ => true
  | f + 1, d => if d * d ≤ p then (if p % d = 0 then false else trial p f (d + 1)) else true
/-- The primes below 2 + k. -/
def primesTo : Nat → List Nat
  | 0 => []
  | k + 1 => if trial (2 + k) 20 2 then primesTo k ++ [2 + k] else primesTo k
def primesL : List Nat := [2, 3, 5, 7, 11, 13, 17, 19, 23, 29, 31, 37, 41, 43, 47, 53, 59, 61, 67, 71, 73, 79, 83, 89, 97, 101, 103, 107, 109, 113, 127, 131, 137, 139, 149, 151, 157, 163, 167, 173, 179, 181, 191, 193, 197, 199, 211, 223, 227, 229, 233, 239, 241, 251, 257, 263, 269, 271, 277, 281, 283, 293, 307, 311]
theorem primesTo_all : primesTo 310 = primesL := by decide +kernel
theorem primesTo_last : (primesTo 309).length = 63 := by decide +kernel
theorem primesTo_step (k : Nat) : primesTo (k + 1) = if trial (2 + k) 20 2 then primesTo k ++ [2 + k] else primesTo k := rfl
theorem primesTo_mono (k j : Nat) : (primesTo k).length ≤ (primesTo (k + j)).length := by
  induction j with
  | zero => exact Nat.le_refl _
  | succ j ih =>
    rw [← Nat.add_assoc, primesTo_step]
    split
    · rw [List.length_append]; omega
    · exact ih
theorem primesTo_few (k : Nat) (h : k < 310) : (primesTo k).length < 64 := by
  have := primesTo_mono k (309 - k)
  rw [show k + (309 - k) = 309 from by omega, primesTo_last] at this
  omega
theorem primesTo_le (k : Nat) (h : k ≤ 310) : (primesTo k).length ≤ 64 := by
  rcases Nat.lt_or_ge k 310 with h' | h'
  · have := primesTo_few k h'; omega
  · obtain rfl : k = 310 := by omega
    rw [primesTo_all]; decide

/-- s times s is at most p times 2^64. -/
def squareN (s p : Nat) : Bool := if s * s / 18446744073709551616 < p then true else (s * s / 18446744073709551616 == p) && (s * s % 18446744073709551616 == 0)
/-- s times s times s is at most p times 2^96. -/
def cubeN (s p : Nat) : Bool :=
  let top := ((s * s % 18446744073709551616) * s / 18446744073709551616 + s * s / 18446744073709551616 * s % 18446744073709551616) % 18446744073709551616
  let low := (s * s % 18446744073709551616) * s % 18446744073709551616
  if top < p * 4294967296 % 18446744073709551616 then true else (top == p * 4294967296 % 18446744073709551616) && (low == 0)
def fits (three : Bool) (t p : Nat) : Bool := if three then (decide (t < 68719476736)) && cubeN t p else squareN t p
/-- What the bits below i make of s. -/
def rootN (three : Bool) (p : Nat) : Nat → Nat → Nat
  | 0, s => s
  | i + 1, s => rootN three p i (if fits three (s ||| 2 ^ i) p then s ||| 2 ^ i else s)
def rootI (three : Bool) (p : Nat) : Int := ((rootN three p 40 0 % 4294967296 : Nat) : Int)
theorem roots_k : primesL.map (rootI true) = kI := by decide +kernel
theorem roots_first : (primesL.take 8).map (rootI false) = [1779033703, 3144134277, 1013904242, 2773480762, 1359893119, 2600822924, 528734635, 1541459225] := by decide +kernel
end Go.Proofs.YtjjahcidncnogaaDoor
