/- Plain arithmetic of words of 64 bits and of four parts of 32 bits: no program is named here. -/
import Derived.Lib.Mul64
import Derived.Laws.Bits64b
namespace Go.Proofs.Ytjppdlgeigocgaa
open Go.Lib

/-- The school product of halves, as the reference takes it: what it calls s is the upper word. -/
theorem school (x y : Nat) (hx : x < 18446744073709551616) (hy : y < 18446744073709551616) :
    (x % 4294967296) * (y % 4294967296) < 18446744073709551616 ∧
    (x % 4294967296) * (y / 4294967296) + (x % 4294967296) * (y % 4294967296) / 4294967296 < 18446744073709551616 ∧
    (x / 4294967296) * (y % 4294967296) + ((x % 4294967296) * (y / 4294967296) + (x % 4294967296) * (y % 4294967296) / 4294967296) % 4294967296 < 18446744073709551616 ∧
    (x / 4294967296) * (y / 4294967296) + ((x % 4294967296) * (y / 4294967296) + (x % 4294967296) * (y % 4294967296) / 4294967296) / 4294967296 < 18446744073709551616 ∧
    (x / 4294967296) * (y / 4294967296) + ((x % 4294967296) * (y / 4294967296) + (x % 4294967296) * (y % 4294967296) / 4294967296) / 4294967296 +
      ((x / 4294967296) * (y % 4294967296) + ((x % 4294967296) * (y / 4294967296) + (x % 4294967296) * (y % 4294967296) / 4294967296) % 4294967296) / 4294967296 = x * y / 18446744073709551616 ∧
    ((x / 4294967296) * (y % 4294967296) + ((x % 4294967296) * (y / 4294967296) + (x % 4294967296) * (y % 4294967296) / 4294967296) % 4294967296) % 4294967296 * 4294967296 +
      (x % 4294967296) * (y % 4294967296) % 4294967296 = x * y % 18446744073709551616 := by
  have e : x * y = (x / 4294967296) * (y / 4294967296) * (4294967296 * 4294967296) + ((x / 4294967296) * (y % 4294967296) + (x % 4294967296) * (y / 4294967296)) * 4294967296 + (x % 4294967296) * (y % 4294967296) := by
    rw [← split_mul, Nat.div_add_mod' x 4294967296, Nat.div_add_mod' y 4294967296]
  have ha := half_mul_le (a := x / 4294967296) (b := y / 4294967296) (by omega) (by omega)
  have hb := half_mul_le (a := x / 4294967296) (b := y % 4294967296) (by omega) (by omega)
  have hc := half_mul_le (a := x % 4294967296) (b := y / 4294967296) (by omega) (by omega)
  have hd := half_mul_le (a := x % 4294967296) (b := y % 4294967296) (by omega) (by omega)
  rw [e]
  generalize (x / 4294967296) * (y / 4294967296) = a at *
  generalize (x / 4294967296) * (y % 4294967296) = b at *
  generalize (x % 4294967296) * (y / 4294967296) = c at *
  generalize (x % 4294967296) * (y % 4294967296) = d at *
  refine ⟨by omega, by omega, by omega, by omega, by omega, by omega⟩

theorem lo_fold (b c d e : Nat) (h : (b + (c + d / 4294967296) % 4294967296) % 4294967296 * 4294967296 + d % 4294967296 = e) :
    (b + (c + d / 4294967296)) % 4294967296 * 4294967296 + d % 4294967296 = e := by rw [Nat.add_mod_mod] at h; exact h

theorem school_lo (x y : Nat) (hx : x < 18446744073709551616) (hy : y < 18446744073709551616) :
    (x / 4294967296 * (y % 4294967296) + (x % 4294967296 * (y / 4294967296) + x % 4294967296 * (y % 4294967296) / 4294967296)) % 4294967296 * 4294967296 + x * y % 4294967296 = x * y % 18446744073709551616 := by
  have h := (school x y hx hy).2.2.2.2.2
  have m := Nat.mul_mod x y 4294967296
  exact (congrArg _ m).trans (lo_fold _ _ _ _ h)

theorem hi_lt (x y : Nat) (hx : x < 18446744073709551616) (hy : y < 18446744073709551616) : x * y / 18446744073709551616 < 18446744073709551616 := by
  have h : x * y < 18446744073709551616 * 18446744073709551616 := Nat.mul_lt_mul'' hx hy
  exact Nat.div_lt_of_lt_mul h

/-- Two parts of 32 bits, joined by 'or'. -/
theorem join_or (d c : Nat) (hc : c < 4294967296) : d * 4294967296 ||| c = d * 4294967296 + c := by
  have h := Nat.shiftLeft_add_eq_or_of_lt (i := 32) (b := c) (by simpa using hc) d
  rw [Nat.shiftLeft_eq] at h
  exact h.symm

theorem bits_join (d c : Nat) (hd : d < 4294967296) (hc : c < 4294967296) : bits .or .u64 ((d : Int) * 4294967296) (c : Int) = ((d * 4294967296 + c : Nat) : Int) := by
  have h := bits_or_u64_nat (d * 4294967296) c (by omega) (by omega)
  rw [join_or d c hc] at h
  rw [← h]; congr 1

theorem natAbs_half : Int.natAbs 4294967296 = 4294967296 := rfl

/-- An ending that returns a word, by an equation of numbers. -/
theorem ret_int {k : IntKind} {a b : Int} (h : a = b) : Ending.returned (.int k a) = .returned (.int k b) := by rw [h]

end Go.Proofs.Ytjppdlgeigocgaa
