/- Plain arithmetic of words of 64 bits and of four parts of 32 bits: no program is named here. -/
import Derived.Lib.Mul64
import Derived.Laws.Bits64b
namespace Go.Proofs.YtjppdlgeigocgaaDoor
open Go.Lib

/-- The school product of halves, as the reference takes it: what it calls s is the upper word. -/
theorem school (x y : Nat) (hx : x < 18446744073709551616) (hy : y < 18446744073709551616) :
    (x % 4294967296) * (y % 4294967296) < 18446744073709551616 ∧
    (x % 4294967296) * (y / 4294967296) + (x % 4294967296) * (y % 4294967296) / 4294967296 < 18446744073709551616 ∧
    (x / 4294967296) * (y % 4294967296) + ((x % 4294967296) * (y / 4294967296) + (x % 4294967296) * (y % 4294967296) / 4294967296) % 4294967296 < 18446744073709551616 ∧
    (x / 4294967296) * (y / 4294967296) + ((x % 4294967296) * (y / 4294967296) + (x % 4294967296) * (y % 4294967296) / 4294967296) / 4294967296 < 18446744073709551616 ∧
    (x / 4294967296) * (y / 4294967296) + ((x % 4294967296) * (y / 4294967296) + (x % 4294967296) * (y % 4294967296) / 4294967296) / 4294967296 +
      ((x / 4294967296) * (y % 4294967296) + ((x % 4294967296) * (y / 4294967296) + (x % 4294967296) * (y % 4294967296) / 4294967296) % 4294967296) / 4294967296 = x * y / 18446744073709551616 ∧
    ((x / 4294967296) * (y % 4294967296) + ((x % 4294967296) * (y / 4294967296) + (x % 4294967296) * (y % 4294967296) / 4294967296) % 4294967296) % 4294967296 * 4294967296 +
      (x % 4294967296) * (y % 4294967296) % 4294967296 = x * y % 18446744073709551616 := by
  have e : x * y = (x / 4294967296) * (y / 4294967296) * (4294967296 * 4294967296) + ((x / 4294967296) * (y % 4294967296) + (x % 4294967296) * (y / 4294967296)) * 4294967296 + (x % 4294967296) * (y % 4294967296) := by
    rw [← split_mul, Nat.div_add_mod' x 4294967296, Nat.div_add_mod' y 4294967296]
  have ha := half_mul_le (a := x / 4294967296) (b := y / 4294967296) (by omega) (by omega)
  have hb := half_mul_le (a := x / 4294967296) (b := y % 4294967296) (by omega) (by omega)
  have hc := half_mul_le (a := x % 4294967296) (b := y / 4294967296) (by omega) (by omega)
  have hd := half_mul_le (a := x % 4294967296) (b := y % 4294967296) (by omega) (by omega)
  rw [e]
  generalize (x / 4294967296) * (y / 4294967296) = a at *
  generalize (x / 4294967296) * (y % 4294967296) = b at *
  generalize (x % 4294967296) * (y / 4294967296) = c at *
  generalize (x % 4294967296) * (y % 4294967296) = d at *
  refine ⟨by omega, by omega, by omega, by omega, by omega, by omega⟩

theorem lo_fold (b c d e : Nat) (h : (b + (c + d / 4294967296) % 4294967296) % 4294967296 * 4294967296 + d % 4294967296 = e) :
    (b + (c + d / 4294967296)) % 4294967296 * 4294967296 + d % 4294967296 = e := by rw [Nat.add_mod_mod] at h; exact h

theorem school_lo (x y : Nat) (hx : x < 18446744073709551616) (hy : y < 18446744073709551616) :
    (x / 4294967296 * (y % 4294967296) + (x % 4294967296 * (y / 4294967296) + x % 4294967296 * (y % 4294967296) / 4294967296)) % 4294967296 * 4294967296 + x * y % 4294967296 = x * y % 18446744073709551616 := by
  have h := (school x y hx hy).2.2.2.2.2
  have m := Nat.mul_mod x y 4294967296
  exact (congrArg _ m).trans (lo_fold _ _ _ _ h)

theorem hi_lt (x y : Nat) (hx : x < 18446744073709551616) (hy : y < 18446744073709551616) : x * y / 18446744073709551616 < 18446744073709551616 := by
  have h : x * y < 18446744073709551616 * 18446744073709551616 := Nat.mul_lt_mul'' hx hy
  exact Nat.div_lt_of_lt_mul h

/-- Two parts of 32 bits, joined by 'or'. -/
theorem join_or (d c : Nat) (hc : c < 4294967296) : d * 4294967296 ||| c = d * 4294967296 + c := by
  have h := Nat.shiftLeft_add_eq_or_of_lt (i := 32) (b := c) (by simpa using hc) d
  rw [Nat.shiftLeft_eq] at h
  exact h.symm

theorem bits_join (d c : Nat) (hd : d < 4294967296) (hc : c < 4294967296) : bits .or .u64 ((d : Int) * 4294967296) (c : Int) = ((d * 4294967296 + c : Nat) : Int) := by
  have h := bits_or_u64_nat (d * 4294967296) c (by omega) (by omega)
  rw [join_or d c hc] at h
  rw [← h]; congr 1

/-! Halves of a number below 2^128. -/
theorem half_bd (n : Nat) (h : n < 340282366920938463463374607431768211456) : 0 ≤ ((n / 18446744073709551616 : Nat) : Int) ∧ ((n / 18446744073709551616 : Nat) : Int) < 18446744073709551616 ∧ 0 ≤ ((n % 18446744073709551616 : Nat) : Int) ∧ ((n % 18446744073709551616 : Nat) : Int) < 18446744073709551616 := by omega

theorem add_hi (x y : Nat) :
    (((x / 18446744073709551616 : Nat) : Int) + ((y / 18446744073709551616 : Nat) : Int) + (((x % 18446744073709551616 : Nat) : Int) + ((y % 18446744073709551616 : Nat) : Int)) / 18446744073709551616) % 18446744073709551616 = (((x + y) % 340282366920938463463374607431768211456 / 18446744073709551616 : Nat) : Int) := by omega
theorem add_lo (x y : Nat) :
    (((x % 18446744073709551616 : Nat) : Int) + ((y % 18446744073709551616 : Nat) : Int)) % 18446744073709551616 = (((x + y) % 340282366920938463463374607431768211456 % 18446744073709551616 : Nat) : Int) := by omega
theorem add_over (x y : Nat) :
    ((((x / 18446744073709551616 : Nat) : Int) + ((y / 18446744073709551616 : Nat) : Int) + (((x % 18446744073709551616 : Nat) : Int) + ((y % 18446744073709551616 : Nat) : Int)) / 18446744073709551616) / 18446744073709551616 != 0) = decide (340282366920938463463374607431768211456 ≤ x + y) := by
  rw [Bool.eq_iff_iff, bne_iff_ne, decide_eq_true_iff]; omega

/-- The borrow of a difference. -/
def bor (x y : Int) : Int := if x < y then 1 else 0
theorem bor_lo (x y : Int) : 0 ≤ bor x y := by unfold bor; split <;> decide
theorem bor_hi (x y : Int) : bor x y ≤ 1 := by unfold bor; split <;> decide

theorem sub_hi (x y : Nat) (hx : x < 340282366920938463463374607431768211456) (hy : y < 340282366920938463463374607431768211456) :
    (((x / 18446744073709551616 : Nat) : Int) - ((y / 18446744073709551616 : Nat) : Int) - bor ((x % 18446744073709551616 : Nat) : Int) ((y % 18446744073709551616 : Nat) : Int)) % 18446744073709551616 = (((x + 340282366920938463463374607431768211456 - y) % 340282366920938463463374607431768211456 / 18446744073709551616 : Nat) : Int) := by
  unfold bor; split <;> omega
theorem sub_lo (x y : Nat) (hy : y < 340282366920938463463374607431768211456) :
    (((x % 18446744073709551616 : Nat) : Int) - ((y % 18446744073709551616 : Nat) : Int)) % 18446744073709551616 = (((x + 340282366920938463463374607431768211456 - y) % 340282366920938463463374607431768211456 % 18446744073709551616 : Nat) : Int) := by omega
theorem sub_under (x y : Nat) :
    (bor ((x / 18446744073709551616 : Nat) : Int) (((y / 18446744073709551616 : Nat) : Int) + bor ((x % 18446744073709551616 : Nat) : Int) ((y % 18446744073709551616 : Nat) : Int)) != 0) = decide (x < y) := by
  rw [Bool.eq_iff_iff, bne_iff_ne, decide_eq_true_iff]; unfold bor; split <;> split <;> omega

/-- The order of two numbers. -/
def ord (x y : Nat) : Int := if x < y then -1 else if y < x then 1 else 0

theorem ord_lt {x y : Nat} (h : x < y) : ord x y = -1 := by unfold ord; rw [if_pos h]
theorem ord_gt {x y : Nat} (h : y < x) : ord x y = 1 := by unfold ord; rw [if_neg (by omega), if_pos h]
theorem ord_eq {x y : Nat} (h : x = y) : ord x y = 0 := by unfold ord; rw [if_neg (by omega), if_neg (by omega)]

/-! Shifts by parts. -/
theorem shl_core (ah al K L W : Nat) (hW : K * L = W) (hal : al < W) (hK : 0 < K) (hL : 0 < L) :
    (ah * W + al) * K % (W * W) / W = ah % L * K + al / L := by
  have hW0 : 0 < W := by rw [← hW]; exact Nat.mul_pos hK hL
  rw [Nat.mod_mul_right_div_self]
  have e1 : (ah * W + al) * K / W = al / L + ah * K := by
    have : (ah * W + al) * K / W = (ah * W + al) * K / (L * K) := by rw [Nat.mul_comm L K, hW]
    rw [this, Nat.mul_div_mul_right _ _ hK, ← hW, Nat.add_comm, ← Nat.mul_assoc, Nat.add_mul_div_right _ _ hL]
  rw [e1]
  have hq : al / L < K := Nat.div_lt_of_lt_mul (by rw [Nat.mul_comm]; omega)
  have hr : ah % L < L := Nat.mod_lt _ hL
  have e2 : ah * K = ah % L * K + W * (ah / L) := by
    conv => lhs; rw [← Nat.mod_add_div ah L]
    rw [Nat.add_mul, ← hW, Nat.mul_comm L (ah / L), Nat.mul_assoc (ah / L), Nat.mul_comm (ah / L), Nat.mul_comm L K]
  rw [e2, ← Nat.add_assoc, Nat.add_mul_mod_self_left, Nat.mod_eq_of_lt, Nat.add_comm]
  have h3 : (ah % L + 1) * K ≤ L * K := Nat.mul_le_mul_right K hr
  rw [Nat.add_mul, Nat.one_mul, Nat.mul_comm L K, hW] at h3
  omega

theorem mulmod_core (ah K L W : Nat) (hW : K * L = W) : ah * K % W = ah % L * K := by
  rw [← hW, Nat.mul_comm K L, Nat.mul_mod_mul_right]

theorem pow_split (k : Nat) (h : k ≤ 64) : 2 ^ k * 2 ^ (64 - k) = 18446744073709551616 := by
  rw [← Nat.pow_add, show k + (64 - k) = 64 by omega]

theorem split_word (x : Nat) : x / 18446744073709551616 * 18446744073709551616 + x % 18446744073709551616 = x := Nat.div_add_mod' x _

theorem shl_small_hi (x k : Nat) (hk' : k < 64) :
    (x / 18446744073709551616 * 2 ^ k % 18446744073709551616) ||| (x % 18446744073709551616 / 2 ^ (64 - k)) = x * 2 ^ k % 340282366920938463463374607431768211456 / 18446744073709551616 := by
  have hW := pow_split k (by omega)
  have hK : 0 < 2 ^ k := Nat.two_pow_pos k
  have hL : 0 < 2 ^ (64 - k) := Nat.two_pow_pos _
  have c := shl_core (x / 18446744073709551616) (x % 18446744073709551616) (2 ^ k) (2 ^ (64 - k)) _ hW (Nat.mod_lt _ (by decide)) hK hL
  rw [split_word] at c
  rw [show (340282366920938463463374607431768211456 : Nat) = 18446744073709551616 * 18446744073709551616 from rfl, c, mulmod_core _ _ _ _ hW]
  have hq : x % 18446744073709551616 / 2 ^ (64 - k) < 2 ^ k := Nat.div_lt_of_lt_mul (by rw [Nat.mul_comm, hW]; exact Nat.mod_lt _ (by decide))
  have h := Nat.shiftLeft_add_eq_or_of_lt hq (x / 18446744073709551616 % 2 ^ (64 - k))
  rw [Nat.shiftLeft_eq] at h
  exact h.symm

theorem shl_small_lo (x k : Nat) : x % 18446744073709551616 * 2 ^ k % 18446744073709551616 = x * 2 ^ k % 340282366920938463463374607431768211456 % 18446744073709551616 := by
  rw [Nat.mod_mod_of_dvd _ (by decide), Nat.mod_mul_mod]

theorem shl_great (x k : Nat) (hk : 64 ≤ k) : x % 18446744073709551616 * 2 ^ min (k - 64) 64 % 18446744073709551616 = x * 2 ^ k % 340282366920938463463374607431768211456 / 18446744073709551616 := by
  have e : x * 2 ^ k = 18446744073709551616 * (x * 2 ^ (k - 64)) := by
    rw [show (18446744073709551616 : Nat) = 2 ^ 64 from rfl, Nat.mul_left_comm, ← Nat.pow_add, show 64 + (k - 64) = k by omega]
  rw [e, show (340282366920938463463374607431768211456 : Nat) = 18446744073709551616 * 18446744073709551616 from rfl, Nat.mul_mod_mul_left, Nat.mul_div_cancel_left _ (by decide), Nat.mod_mul_mod]
  by_cases h : k - 64 ≤ 64
  · rw [Nat.min_eq_left h]
  · rw [Nat.min_eq_right (by omega)]
    have e2 : x * 2 ^ (k - 64) = x * 2 ^ (k - 128) * 2 ^ 64 := by rw [Nat.mul_assoc, ← Nat.pow_add]; congr 2; omega
    rw [e2, show (18446744073709551616 : Nat) = 2 ^ 64 from rfl, Nat.mul_mod_left, Nat.mul_mod_left]

theorem shl_great_lo (x k : Nat) (hk : 64 ≤ k) : x * 2 ^ k % 340282366920938463463374607431768211456 % 18446744073709551616 = 0 := by
  have e : x * 2 ^ k = 18446744073709551616 * (x * 2 ^ (k - 64)) := by
    rw [show (18446744073709551616 : Nat) = 2 ^ 64 from rfl, Nat.mul_left_comm, ← Nat.pow_add, show 64 + (k - 64) = k by omega]
  rw [Nat.mod_mod_of_dvd _ (by decide), e, Nat.mul_mod_right]

/-! The other way: down. -/
theorem shr_small_lo (x k : Nat) (hk' : k < 64) (hk : 0 < k) :
    (x % 18446744073709551616 / 2 ^ k) ||| (x / 18446744073709551616 * 2 ^ (64 - k) % 18446744073709551616) = x / 2 ^ k % 18446744073709551616 := by
  have hW := pow_split k (by omega)
  have hK : 0 < 2 ^ k := Nat.two_pow_pos k
  have hL : 0 < 2 ^ (64 - k) := Nat.two_pow_pos _
  have hq : x % 18446744073709551616 / 2 ^ k < 2 ^ (64 - k) := Nat.div_lt_of_lt_mul (by rw [hW]; exact Nat.mod_lt _ (by decide))
  rw [mulmod_core _ (2 ^ (64 - k)) (2 ^ k) 18446744073709551616 (by rw [Nat.mul_comm]; exact hW), Nat.or_comm]
  have h := Nat.shiftLeft_add_eq_or_of_lt hq (x / 18446744073709551616 % 2 ^ k)
  rw [Nat.shiftLeft_eq] at h
  rw [← h]
  have e1 : x / 2 ^ k = x % 18446744073709551616 / 2 ^ k + x / 18446744073709551616 * 2 ^ (64 - k) := by
    conv => lhs; rw [← split_word x]
    rw [Nat.add_comm, ← hW, Nat.mul_comm (2 ^ k), ← Nat.mul_assoc, Nat.add_mul_div_right _ _ hK]
  have e2 := mulmod_core (x / 18446744073709551616) (2 ^ (64 - k)) (2 ^ k) 18446744073709551616 (by rw [Nat.mul_comm]; exact hW)
  have hL2 : 2 ^ (64 - k) ≤ 18446744073709551616 := by rw [← hW]; exact Nat.le_mul_of_pos_left _ hK
  have hr : x / 18446744073709551616 % 2 ^ k < 2 ^ k := Nat.mod_lt _ hK
  have h3 : (x / 18446744073709551616 % 2 ^ k + 1) * 2 ^ (64 - k) ≤ 2 ^ k * 2 ^ (64 - k) := Nat.mul_le_mul_right _ hr
  rw [Nat.add_mul, Nat.one_mul, hW] at h3
  have hs : x % 18446744073709551616 / 2 ^ k + x / 18446744073709551616 % 2 ^ k * 2 ^ (64 - k) < 18446744073709551616 := by
    generalize x / 18446744073709551616 % 2 ^ k * 2 ^ (64 - k) = u at *
    generalize x % 18446744073709551616 / 2 ^ k = v at *
    omega
  rw [e1, Nat.add_mod, e2, Nat.mod_eq_of_lt (Nat.lt_of_lt_of_le hq hL2), Nat.mod_eq_of_lt hs, Nat.add_comm]
theorem shr_small_hi (x k : Nat) : x / 18446744073709551616 / 2 ^ k = x / 2 ^ k / 18446744073709551616 := by
  rw [Nat.div_div_eq_div_mul, Nat.div_div_eq_div_mul, Nat.mul_comm]
theorem shr_great (x k : Nat) (hx : x < 340282366920938463463374607431768211456) (hk : 64 ≤ k) : x / 18446744073709551616 / 2 ^ min (k - 64) 64 = x / 2 ^ k := by
  by_cases h : k - 64 ≤ 64
  · rw [Nat.min_eq_left h, Nat.div_div_eq_div_mul, show (18446744073709551616 : Nat) = 2 ^ 64 from rfl, ← Nat.pow_add, show 64 + (k - 64) = k by omega]
  · rw [Nat.min_eq_right (by omega), Nat.div_div_eq_div_mul, Nat.div_eq_of_lt (by simpa using hx), Nat.div_eq_of_lt]
    exact Nat.lt_of_lt_of_le hx (by rw [show (340282366920938463463374607431768211456 : Nat) = 2 ^ 128 from rfl]; exact Nat.pow_le_pow_right (by decide) (by omega))

/-! The same, as the walk spells it. -/
theorem cast_mulpow (a j : Nat) : (a : Int) * 2 ^ j % 18446744073709551616 = ((a * 2 ^ j % 18446744073709551616 : Nat) : Int) := by
  rw [Int.natCast_emod, Int.natCast_mul, Int.natCast_pow]; rfl
theorem shl_hi_walk (x k : Nat) (hk' : k < 64) :
    bits .or .u64 (IntKind.u64.wrap (((x / 18446744073709551616 : Nat) : Int) * 2 ^ k)) (((x % 18446744073709551616 : Nat) : Int) / 2 ^ (64 - k)) = ((x * 2 ^ k % 340282366920938463463374607431768211456 / 18446744073709551616 : Nat) : Int) := by
  rw [← shl_small_hi x k hk', IntKind.wrap_u64]
  have hq : x % 18446744073709551616 / 2 ^ (64 - k) < 18446744073709551616 := Nat.lt_of_le_of_lt (Nat.div_le_self _ _) (Nat.mod_lt _ (by decide))
  rw [← bits_or_u64_nat _ _ (Nat.mod_lt _ (by decide)) hq]
  congr 1
theorem shl_lo_walk (x k : Nat) :
    IntKind.u64.wrap (((x % 18446744073709551616 : Nat) : Int) * 2 ^ k) = ((x * 2 ^ k % 340282366920938463463374607431768211456 % 18446744073709551616 : Nat) : Int) := by
  rw [← shl_small_lo, IntKind.wrap_u64]; exact cast_mulpow _ _
theorem shl_great_walk (x k : Nat) (hk : 64 ≤ k) :
    IntKind.u64.wrap (((x % 18446744073709551616 : Nat) : Int) * 2 ^ min (k - 64) 64) = ((x * 2 ^ k % 340282366920938463463374607431768211456 / 18446744073709551616 : Nat) : Int) := by
  rw [← shl_great x k hk, IntKind.wrap_u64]; exact cast_mulpow _ _
theorem shr_lo_walk (x k : Nat) (hk' : k < 64) (hk : 0 < k) :
    bits .or .u64 (((x % 18446744073709551616 : Nat) : Int) / 2 ^ k) (IntKind.u64.wrap (((x / 18446744073709551616 : Nat) : Int) * 2 ^ (64 - k))) = ((x / 2 ^ k % 18446744073709551616 : Nat) : Int) := by
  rw [← shr_small_lo x k hk' hk, IntKind.wrap_u64]
  have hq : x % 18446744073709551616 / 2 ^ k < 18446744073709551616 := Nat.lt_of_le_of_lt (Nat.div_le_self _ _) (Nat.mod_lt _ (by decide))
  rw [← bits_or_u64_nat _ _ hq (Nat.mod_lt _ (by decide))]
  congr 1

theorem cast_divpow (a j : Nat) : (a : Int) / 2 ^ j = ((a / 2 ^ j : Nat) : Int) := by
  rw [Int.natCast_ediv, Int.natCast_pow]; rfl
theorem shr_hi_walk (x k : Nat) : ((x / 18446744073709551616 : Nat) : Int) / 2 ^ k = ((x / 2 ^ k / 18446744073709551616 : Nat) : Int) := by
  rw [← shr_small_hi]; exact cast_divpow _ _
theorem shr_great_walk (x k : Nat) (hx : x < 340282366920938463463374607431768211456) (hk : 64 ≤ k) :
    ((x / 18446744073709551616 : Nat) : Int) / 2 ^ min (k - 64) 64 = ((x / 2 ^ k : Nat) : Int) := by
  rw [← shr_great x k hx hk]; exact cast_divpow _ _

theorem natAbs_half : Int.natAbs 4294967296 = 4294967296 := rfl

/-- An ending that returns a word, by an equation of numbers. -/
theorem ret_int {k : IntKind} {a b : Int} (h : a = b) : Ending.returned (.int k a) = .returned (.int k b) := by rw [h]

end Go.Proofs.YtjppdlgeigocgaaDoor
