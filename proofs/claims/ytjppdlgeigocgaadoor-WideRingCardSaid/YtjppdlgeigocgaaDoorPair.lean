/- The contracts of wide.Pair's calls over the number that a pair says: each returns what plain arithmetic modulo 2^128 says; the world has at most new blocks. -/
import Derived.Test.YtjppdlgeigocgaaDoorMul
import Derived.Test.YtjppdlgeigocgaaDoorShelf
import Derived.Shelf.Spec.BitsCarry
import Derived.Handy
namespace Go.Proofs.YtjppdlgeigocgaaDoor
open Go.RowKit Go.Lib Go.Shelf

/-- The pair of a number. -/
def phi (n : Nat) : Int := ((n / 18446744073709551616 : Nat) : Int)
def plo (n : Nat) : Int := ((n % 18446744073709551616 : Nat) : Int)
abbrev par (n : Nat) : Value := .agg #[.int .u64 (phi n), .int .u64 (plo n)]

/-! The library's sums and differences of words with a carry, at this program's own numbers. -/
theorem add64 (x y c : Int) (hx : 0 ≤ x) (hy : 0 ≤ y) (hc0 : 0 ≤ c) (hc : c ≤ 1) (w : World) : (callFunc 52 #[.int .u64 x, .int .u64 y, .int .u64 c]).run Tryd.prog w =
    .ok (.value (.tuple #[.int .u64 ((x + y + c) % 18446744073709551616), .int .u64 ((x + y + c) / 18446744073709551616)])) w := by
  obtain ⟨x, rfl⟩ := Int.eq_ofNat_of_zero_le hx
  obtain ⟨y, rfl⟩ := Int.eq_ofNat_of_zero_le hy
  obtain ⟨c, rfl⟩ := Int.eq_ofNat_of_zero_le hc0
  refine (Any7.bits_Add64 Tryd.lays25 x y c (by omega) w).trans ?_
  congr 5 <;> omega

theorem sub64 (x y b : Int) (hx : 0 ≤ x) (hy : 0 ≤ y) (hy' : y < 18446744073709551616) (hb0 : 0 ≤ b) (hb : b ≤ 1) (w : World) : (callFunc 53 #[.int .u64 x, .int .u64 y, .int .u64 b]).run Tryd.prog w =
    .ok (.value (.tuple #[.int .u64 ((x - y - b) % 18446744073709551616), .int .u64 (bor x (y + b))])) w := by
  obtain ⟨x, rfl⟩ := Int.eq_ofNat_of_zero_le hx
  obtain ⟨y, rfl⟩ := Int.eq_ofNat_of_zero_le hy
  obtain ⟨b, rfl⟩ := Int.eq_ofNat_of_zero_le hb0
  have e1 : (((x + 18446744073709551616 - y - b) % 18446744073709551616 : Nat) : Int) = ((x : Int) - y - b) % 18446744073709551616 := by omega
  have e2 : ((if x < y + b then 1 else 0 : Nat) : Int) = bor (x : Int) (y + b) := by unfold bor; split <;> split <;> omega
  rw [← e1, ← e2]
  exact Any7.bits_Sub64 Tryd.lays26 x y b (by omega) w

theorem add64_0 (x y : Int) (hx : 0 ≤ x) (hy : 0 ≤ y) (w : World) : (callFunc 52 #[.int .u64 x, .int .u64 y, .int .u64 0]).run Tryd.prog w =
    .ok (.value (.tuple #[.int .u64 ((x + y) % 18446744073709551616), .int .u64 ((x + y) / 18446744073709551616)])) w := by
  simpa using add64 x y 0 hx hy (Int.le_refl 0) (by decide) w
theorem sub64_0 (x y : Int) (hx : 0 ≤ x) (hy : 0 ≤ y) (hy' : y < 18446744073709551616) (w : World) : (callFunc 53 #[.int .u64 x, .int .u64 y, .int .u64 0]).run Tryd.prog w =
    .ok (.value (.tuple #[.int .u64 ((x - y) % 18446744073709551616), .int .u64 (bor x y)])) w := by
  simpa using sub64 x y 0 hx hy hy' (Int.le_refl 0) (by decide) w

/-- (Pair).Add: the sum modulo 2^128, and whether it goes beyond. -/
theorem pairAdd_any (x y : Nat) (hx : x < 340282366920938463463374607431768211456) (hy : y < 340282366920938463463374607431768211456) (w : World) :
    Calls Tryd.prog 12 #[par x, par y] w fun e w' => e = .returned (.tuple #[par ((x + y) % 340282366920938463463374607431768211456), .bool (decide (340282366920938463463374607431768211456 ≤ x + y))]) ∧ ∃ c1 c2 c3 : Array Value, w' = ((w.alloc (.cells c1 26)).alloc (.cells c2 26)).alloc (.cells c3 26) := by
  obtain ⟨a1, a2, b1, b2⟩ := half_bd x hx
  obtain ⟨c1, c2, d1, d2⟩ := half_bd y hy
  have f1 := add_hi x y
  have f2 := add_lo x y
  have f3 := add_over x y
  unfold par phi plo
  generalize ((x / 18446744073709551616 : Nat) : Int) = ah at *
  generalize ((x % 18446744073709551616 : Nat) : Int) = al at *
  generalize ((y / 18446744073709551616 : Nat) : Int) = bh at *
  generalize ((y % 18446744073709551616 : Nat) : Int) = bl at *
  have k0 : 0 ≤ (al + bl) / 18446744073709551616 := by omega
  have k1 : (al + bl) / 18446744073709551616 ≤ 1 := by omega
  have F1 := Lib.hid f1; have F2 := Lib.hid f2; have F3 := Lib.hid f3
  clear f1 f2 f3
  go_enter Tryd.func12, Tryd.ntmps12
  go_wp2_with (first | simp only [add64_0 al bl b1 d1] | simp only [add64 ah bh _ a1 c1 k0 k1])
  go_returns
  refine ⟨?_, _, _, _, rfl⟩
  rw [F1.out, F2.out, F3.out]

/-- (Pair).Sub: the difference modulo 2^128, and whether it goes below nought. -/
theorem pairSub_any (x y : Nat) (hx : x < 340282366920938463463374607431768211456) (hy : y < 340282366920938463463374607431768211456) (w : World) :
    Calls Tryd.prog 15 #[par x, par y] w fun e w' => e = .returned (.tuple #[par ((x + 340282366920938463463374607431768211456 - y) % 340282366920938463463374607431768211456), .bool (decide (x < y))]) ∧ ∃ c1 c2 c3 : Array Value, w' = ((w.alloc (.cells c1 26)).alloc (.cells c2 26)).alloc (.cells c3 26) := by
  obtain ⟨a1, a2, b1, b2⟩ := half_bd x hx
  obtain ⟨c1, c2, d1, d2⟩ := half_bd y hy
  have f1 := sub_hi x y hx hy
  have f2 := sub_lo x y hy
  have f3 := sub_under x y
  unfold par phi plo
  generalize ((x / 18446744073709551616 : Nat) : Int) = ah at *
  generalize ((x % 18446744073709551616 : Nat) : Int) = al at *
  generalize ((y / 18446744073709551616 : Nat) : Int) = bh at *
  generalize ((y % 18446744073709551616 : Nat) : Int) = bl at *
  have k0 := bor_lo al bl
  have k1 := bor_hi al bl
  have F1 := Lib.hid f1; have F2 := Lib.hid f2; have F3 := Lib.hid f3
  clear f1 f2 f3
  go_enter Tryd.func15, Tryd.ntmps15
  go_wp2_with (first | simp only [sub64_0 al bl b1 d1 d2] | simp only [sub64 ah bh _ a1 c1 c2 k0 k1])
  go_returns
  refine ⟨?_, _, _, _, rfl⟩
  rw [F1.out, F2.out, F3.out]

/-- compare: the order of two words. -/
theorem compare_any (x y : Nat) (w : World) :
    Calls Tryd.prog 57 #[.int .u64 x, .int .u64 y] w fun e w' => e = .returned (.int .i64 (ord x y)) ∧ w' = w := by
  by_cases h : x < y
  · rw [ord_lt h]
    go_enter Tryd.func57, Tryd.ntmps57
    go_wp2
    go_ret
    exact ⟨rfl, rfl⟩
  · by_cases g : y < x
    · rw [ord_gt g]
      go_enter Tryd.func57, Tryd.ntmps57
      go_wp2
      go_ret
      exact ⟨rfl, rfl⟩
    · rw [ord_eq (by omega)]
      go_enter Tryd.func57, Tryd.ntmps57
      go_wp2
      go_ret
      exact ⟨rfl, rfl⟩

/-- (Pair).Shl. -/
theorem pairShl_any (x : Nat) (hx : x < 340282366920938463463374607431768211456) (n : Int) (hn : -9223372036854775808 ≤ n) (hn' : n ≤ 9223372036854775807) (w : World) :
    Calls Tryd.prog 18 #[par x, .int .i64 n] w fun e w' => e = .returned (par (x * 2 ^ n.toNat % 340282366920938463463374607431768211456)) ∧ ∃ c1 c2 : Array Value, w' = (w.alloc (.cells c1 26)).alloc (.cells c2 26) := by
  obtain ⟨a1, a2, b1, b2⟩ := half_bd x hx
  unfold par phi plo
  by_cases h0 : n ≤ 0
  · rw [show n.toNat = 0 by omega, Nat.pow_zero, Nat.mul_one, Nat.mod_eq_of_lt hx]
    generalize ((x / 18446744073709551616 : Nat) : Int) = ah at *
    generalize ((x % 18446744073709551616 : Nat) : Int) = al at *
    go_enter Tryd.func18, Tryd.ntmps18
    go_wp2
    go_returns
    exact ⟨rfl, _, _, rfl⟩
  · obtain ⟨k, rfl⟩ := Int.eq_ofNat_of_zero_le (a := n) (by omega)
    rw [Int.toNat_natCast]
    by_cases h1 : 64 ≤ k
    · have F1 := Lib.hid (shl_great_walk x k h1)
      have F2 := Lib.hid (shl_great_lo x k h1)
      rw [F2.out]
      generalize ((x / 18446744073709551616 : Nat) : Int) = ah at *
      generalize ((x % 18446744073709551616 : Nat) : Int) = al at *
      generalize x * 2 ^ k % 340282366920938463463374607431768211456 / 18446744073709551616 = r at *
      clear F2
      go_enter Tryd.func18, Tryd.ntmps18
      go_wp2
      go_returns
      exact ⟨by rw [F1.out], _, _, rfl⟩
    · have F1 := Lib.hid (shl_hi_walk x k (by omega))
      have F2 := Lib.hid (shl_lo_walk x k)
      generalize ((x / 18446744073709551616 : Nat) : Int) = ah at *
      generalize ((x % 18446744073709551616 : Nat) : Int) = al at *
      generalize x * 2 ^ k % 340282366920938463463374607431768211456 / 18446744073709551616 = r at *
      generalize x * 2 ^ k % 340282366920938463463374607431768211456 % 18446744073709551616 = s at *
      go_enter Tryd.func18, Tryd.ntmps18
      go_wp2
      go_returns
      exact ⟨by rw [F1.out, F2.out], _, _, rfl⟩

/-- (Pair).Shr. -/
theorem pairShr_any (x : Nat) (hx : x < 340282366920938463463374607431768211456) (n : Int) (hn : -9223372036854775808 ≤ n) (hn' : n ≤ 9223372036854775807) (w : World) :
    Calls Tryd.prog 20 #[par x, .int .i64 n] w fun e w' => e = .returned (par (x / 2 ^ n.toNat)) ∧ ∃ c1 c2 : Array Value, w' = (w.alloc (.cells c1 26)).alloc (.cells c2 26) := by
  obtain ⟨a1, a2, b1, b2⟩ := half_bd x hx
  unfold par phi plo
  by_cases h0 : n ≤ 0
  · rw [show n.toNat = 0 by omega, Nat.pow_zero, Nat.div_one]
    generalize ((x / 18446744073709551616 : Nat) : Int) = ah at *
    generalize ((x % 18446744073709551616 : Nat) : Int) = al at *
    go_enter Tryd.func20, Tryd.ntmps20
    go_wp2
    go_returns
    exact ⟨rfl, _, _, rfl⟩
  · obtain ⟨k, rfl⟩ := Int.eq_ofNat_of_zero_le (a := n) (by omega)
    rw [Int.toNat_natCast]
    by_cases h1 : 64 ≤ k
    · have f1 := shr_great x k hx h1
      have f2 : x / 2 ^ k < 18446744073709551616 := by rw [← f1]; exact Nat.lt_of_le_of_lt (Nat.div_le_self _ _) (by omega)
      have f3 := Nat.mod_eq_of_lt f2
      have f4 := Nat.div_eq_of_lt f2
      rw [f3, f4]
      have F1 := Lib.hid (shr_great_walk x k hx h1)
      clear f1 f2 f3 f4
      generalize ((x % 18446744073709551616 : Nat) : Int) = al at *
      generalize ((x / 18446744073709551616 : Nat) : Int) = ah at *
      generalize x / 2 ^ k = r at *
      clear hx
      go_enter Tryd.func20, Tryd.ntmps20
      go_wp2
      go_returns
      exact ⟨by rw [F1.out], _, _, rfl⟩
    · have F1 := Lib.hid (shr_lo_walk x k (by omega) (by omega))
      have F2 := Lib.hid (shr_hi_walk x k)
      generalize ((x % 18446744073709551616 : Nat) : Int) = al at *
      generalize ((x / 18446744073709551616 : Nat) : Int) = ah at *
      generalize x / 2 ^ k % 18446744073709551616 = r at *
      generalize x / 2 ^ k / 18446744073709551616 = s at *
      clear hx
      go_enter Tryd.func20, Tryd.ntmps20
      go_wp2
      go_returns
      exact ⟨by rw [F1.out, F2.out], _, _, rfl⟩

/-- (Pair).Cmp: the order. -/
theorem pairCmp_any (x y : Nat) (w : World) :
    Calls Tryd.prog 22 #[par x, par y] w fun e w' => e = .returned (.int .i64 (ord x y)) ∧ ∃ c1 c2 : Array Value, w' = (w.alloc (.cells c1 26)).alloc (.cells c2 26) := by
  unfold par phi plo
  by_cases h : x / 18446744073709551616 = y / 18446744073709551616
  · have E : Hid (ord (x % 18446744073709551616) (y % 18446744073709551616) = ord x y) := by
      unfold ord; show _ = _; split <;> split <;> (try split) <;> omega
    rw [h]
    generalize hc : x % 18446744073709551616 = c at *
    generalize hd : y % 18446744073709551616 = d at *
    generalize he : y / 18446744073709551616 = a at *
    clear h hc hd he
    go_enter Tryd.func22, Tryd.ntmps22
    go_wp2_with (go_at_call 57; refine (compare_any _ _ _).mono ?_; rintro e w' ⟨rfl, rfl⟩)
    go_returns
    exact ⟨by rw [E.out]; rfl, _, _, rfl⟩
  · have E : Hid (ord (x / 18446744073709551616) (y / 18446744073709551616) = ord x y) := by
      unfold ord; show _ = _; split <;> split <;> (try split) <;> omega
    generalize hc : x % 18446744073709551616 = c at *
    generalize hd : y % 18446744073709551616 = d at *
    generalize he : y / 18446744073709551616 = a at *
    generalize hf : x / 18446744073709551616 = b at *
    clear hc hd he hf
    go_enter Tryd.func22, Tryd.ntmps22
    go_wp2_with (go_at_call 57; refine (compare_any _ _ _).mono ?_; rintro e w' ⟨rfl, rfl⟩)
    go_returns
    exact ⟨by rw [E.out]; rfl, _, _, rfl⟩

/-- wide.Mul of two words, over the numbers that they are. -/
theorem mulWords_any (a b : Int) (ha : 0 ≤ a) (ha' : a < 18446744073709551616) (hb : 0 ≤ b) (hb' : b < 18446744073709551616) (w : World) :
    Calls Tryd.prog 51 #[.int .u64 a, .int .u64 b] w fun e w' => e = .returned (par (a.toNat * b.toNat)) ∧ ∃ c1 : Array Value, w' = w.alloc (.cells c1 26) := by
  obtain ⟨x, rfl⟩ := Int.eq_ofNat_of_zero_le ha
  obtain ⟨y, rfl⟩ := Int.eq_ofNat_of_zero_le hb
  rw [Int.toNat_natCast, Int.toNat_natCast]
  exact mul_any x y (by omega) (by omega) w

end Go.Proofs.YtjppdlgeigocgaaDoor
