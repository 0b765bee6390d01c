/- The number of an error; the bytes of a padding. -/
import Derived.Test.YtjjahcidncnogaaDoorShaWorks
import Derived.Carry
namespace Go.Proofs.YtjjahcidncnogaaDoor
open Go.RowKit Go.Lib

set_option maxHeartbeats 1000000 in
theorem assertErrno (v : Value) (w : World) : (Instr.typeAssert (.iface 85 v) 75 85 true).run Tryd.prog w = .ok (.tuple #[v, .bool true]) w := by kernel_rfl
set_option maxRecDepth 100000 in
theorem number_nil (w : World) : Calls Tryd.prog 64 #[.nilIface] w fun e w' => e = .returned (.int .i64 0) ∧ w = w' := by
  go_enter Tryd.func64, Tryd.ntmps64
  go_wp2_with fail
  go_ret
  exact ⟨rfl, rfl⟩
set_option maxRecDepth 100000 in
theorem number_some (n : Int) (hn : n = 1 ∨ n = 2 ∨ n = 3) (w : World) : Calls Tryd.prog 64 #[.iface 85 (.int .i64 n)] w fun e w' => e = .returned (.int .i64 n) ∧ w = w' := by
  have ha := assertErrno
  rcases hn with rfl | rfl | rfl
  all_goals
    go_enter Tryd.func64, Tryd.ntmps64
    go_wp2_with fail
    go_ret
    exact ⟨rfl, rfl⟩
theorem wraps_u64 (n : Int) (h₀ : 0 ≤ n) (h₁ : n < 2 ^ 64) : IntKind.u64.wrap n = n := by
  show n % 18446744073709551616 = n
  omega
/-- How many bits, from the k-th byte on. -/
def topN (M k : Nat) : Nat := M / 2 ^ (8 * k)
theorem topN_step (M k : Nat) : topN M k = 256 * topN M (k + 1) + topN M k % 256 := by
  unfold topN
  rw [show 8 * (k + 1) = 8 * k + 8 from by omega, Nat.pow_add, ← Nat.div_div_eq_div_mul]
  omega
theorem topN_lt (M k : Nat) (h : M < 18446744073709551616) : topN M k < 18446744073709551616 := Nat.lt_of_le_of_lt (Nat.div_le_self _ _) h
theorem topN_zero (M k : Nat) (h : M < 18446744073709551616) (hk : 8 ≤ k) : topN M k = 0 := by
  unfold topN
  have h2 : 2 ^ 64 ≤ 2 ^ (8 * k) := Nat.pow_le_pow_right (by decide : 0 < 2) (by omega)
  exact Nat.div_eq_of_lt (by omega)
theorem told_step (M k : Nat) (h : M < 18446744073709551616) : bits .or .u64 ((topN M (k + 1) : Int) * 256 % 18446744073709551616) ((topN M k % 256 : Nat) : Int) = (topN M k : Int) := by
  have h1 := topN_step M k
  have h2 := topN_lt M k h
  have e1 : (topN M (k + 1) : Int) * 256 % 18446744073709551616 = (topN M (k + 1) : Int) * 256 := by omega
  rw [e1]
  have h3 := bits_join .u64 64 (by decide) wraps_u64 8 ((topN M (k + 1) : Int) * 256) ((topN M k % 256 : Nat) : Int) (by omega) (by omega) (by omega) (by omega) (by omega) (by omega)
  exact h3.trans (by omega)
theorem beT_get (n : Nat) : ∀ (k j : Nat), j < k → (beT n k)[j]? = some (byteN n (k - 1 - j))
  | 0, j, h => by omega
  | k + 1, 0, _ => rfl
  | k + 1, j + 1, h => by
    unfold beT
    rw [List.getElem?_cons_succ, beT_get n k j (by omega)]
    congr 2
    omega
/-- The bytes behind the first one of what stands behind a row. -/
theorem pad_at (n i : Nat) (h : 8 * n < 18446744073709551616) (hi : i < noughts n + 8) : ((padL n).drop 1)[i]? = some (UInt8.ofNat (topN (8 * n) (noughts n + 7 - i))) := by
  unfold padL padK
  rw [List.drop_succ_cons, List.drop_zero, show noughts n + 8 - 8 = noughts n from by omega]
  by_cases hz : i < noughts n
  · rw [List.getElem?_append_left (by simpa using hz), List.getElem?_replicate, if_pos hz, topN_zero _ _ h (by omega)]
    rfl
  · rw [List.getElem?_append_right (by simpa using hz), List.length_replicate, beT_get n 8 _ (by omega)]
    unfold byteN topN
    rw [Nat.mod_eq_of_lt h, show 8 - 1 - (i - noughts n) = noughts n + 7 - i from by omega]
theorem padL_length (n : Nat) : (padL n).length = noughts n + 9 := padK_length n 8 (by decide)
theorem noughts_lt (n : Nat) : noughts n < 64 := by unfold noughts; omega
theorem noughts_fit (n : Nat) : (n + (noughts n + 9)) % 64 = 0 := by unfold noughts; omega
end Go.Proofs.YtjjahcidncnogaaDoor
