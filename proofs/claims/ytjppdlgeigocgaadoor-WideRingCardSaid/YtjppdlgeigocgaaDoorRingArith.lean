/- Plain arithmetic of the law WideRing: no program is named here. -/
import Derived.Test.YtjppdlgeigocgaaDoorArith
namespace Go.Proofs.YtjppdlgeigocgaaDoor

theorem ring_back (x y : Nat) (hx : x < 340282366920938463463374607431768211456) (hy : y < 340282366920938463463374607431768211456) :
    ((x + y) % 340282366920938463463374607431768211456 + 340282366920938463463374607431768211456 - y) % 340282366920938463463374607431768211456 = x := by omega
theorem ring_under (x y : Nat) (hx : x < 340282366920938463463374607431768211456) (hy : y < 340282366920938463463374607431768211456) :
    decide ((x + y) % 340282366920938463463374607431768211456 < y) = decide (340282366920938463463374607431768211456 ≤ x + y) := by
  rw [Bool.eq_iff_iff, decide_eq_true_iff, decide_eq_true_iff]; omega
theorem ring_cmp (x y : Nat) (hx : x < 340282366920938463463374607431768211456) (hy : y < 340282366920938463463374607431768211456) :
    decide (ord ((x + y) % 340282366920938463463374607431768211456) x < 0) = decide (340282366920938463463374607431768211456 ≤ x + y) := by
  rw [Bool.eq_iff_iff, decide_eq_true_iff, decide_eq_true_iff]; unfold ord; split
  · constructor <;> intro _ <;> omega
  · split <;> constructor <;> intro _ <;> omega
theorem ring_twice (x : Nat) : x * 2 ^ (1 : Int).toNat % 340282366920938463463374607431768211456 = (x + x) % 340282366920938463463374607431768211456 := by
  show x * 2 ^ 1 % _ = _
  rw [Nat.pow_one, Nat.mul_two]
theorem ring_shl (x : Nat) (n : Int) : (x * 2 ^ n.toNat % 340282366920938463463374607431768211456) * 2 ^ (1 : Int).toNat % 340282366920938463463374607431768211456 = ((x + x) % 340282366920938463463374607431768211456) * 2 ^ n.toNat % 340282366920938463463374607431768211456 := by
  show _ * 2 ^ 1 % _ = _
  rw [Nat.pow_one, Nat.mod_mul_mod, Nat.mod_mul_mod, Nat.mul_two, ← Nat.add_mul]
theorem ring_shr (x k : Nat) : ord (x / 2 ^ k) x ≤ 0 := by
  have h := Nat.div_le_self x (2 ^ k)
  unfold ord; split
  · decide
  · rw [if_neg (by omega)]; decide
theorem ord_neg (x y : Nat) : ord x y = -ord y x := by
  by_cases h : x < y
  · rw [ord_lt h, ord_gt h]
  · by_cases g : y < x
    · rw [ord_gt g, ord_lt g]; rfl
    · rw [ord_eq (by omega), ord_eq (by omega)]; rfl
theorem ord_lo (x y : Nat) : -1 ≤ ord x y := by unfold ord; split <;> (try split) <;> decide
theorem ord_hi (x y : Nat) : ord x y ≤ 1 := by unfold ord; split <;> (try split) <;> decide

/-- A product of words, by the halves of the second one. -/
theorem ring_parts (a b : Nat) (ha : a < 18446744073709551616) (hb : b < 18446744073709551616) :
    (a * (b / 4294967296) * 4294967296 % 340282366920938463463374607431768211456 + a * (b % 4294967296)) % 340282366920938463463374607431768211456 = a * b ∧
    decide (340282366920938463463374607431768211456 ≤ a * (b / 4294967296) * 4294967296 % 340282366920938463463374607431768211456 + a * (b % 4294967296)) = false := by
  have e : a * b = a * (b / 4294967296) * 4294967296 + a * (b % 4294967296) := by
    conv => lhs; rw [← Nat.div_add_mod' b 4294967296]
    rw [Nat.mul_add, Nat.mul_assoc]
  have h : a * b < 18446744073709551616 * 18446744073709551616 := Nat.mul_lt_mul'' ha hb
  have h2 : a * b < 340282366920938463463374607431768211456 := h
  have h1 : a * (b / 4294967296) * 4294967296 % 340282366920938463463374607431768211456 = a * (b / 4294967296) * 4294967296 := Nat.mod_eq_of_lt (Nat.lt_of_le_of_lt (by rw [e]; exact Nat.le_add_right _ _) h2)
  rw [h1, ← e]
  exact ⟨Nat.mod_eq_of_lt h2, decide_eq_false (Nat.not_le_of_lt h2)⟩
theorem ring_bd (a b : Nat) (ha : a < 18446744073709551616) (hb : b < 18446744073709551616) : a * (b / 4294967296) < 340282366920938463463374607431768211456 :=
  Nat.lt_of_le_of_lt (Nat.mul_le_mul_left a (Nat.div_le_self b 4294967296)) (Nat.mul_lt_mul'' ha hb : a * b < 18446744073709551616 * 18446744073709551616)
theorem ring_bd' (a b : Nat) (ha : a < 18446744073709551616) (hb : b < 18446744073709551616) : a * (b % 4294967296) < 340282366920938463463374607431768211456 :=
  Nat.lt_of_le_of_lt (Nat.mul_le_mul_left a (Nat.mod_le b 4294967296)) (Nat.mul_lt_mul'' ha hb : a * b < 18446744073709551616 * 18446744073709551616)
end Go.Proofs.YtjppdlgeigocgaaDoor
