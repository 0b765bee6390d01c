/- What affidavitlaw03 asks of an error that bytes come to: tells. -/
import Derived.Test.YtjbhehkkigopmaaSpot3
namespace Go.Proofs.Ytjbhehkkigopmaa
open Go.RowKit Go.Stop

set_option maxRecDepth 100000 in
theorem tells_ok (at' : Int) (w : World) :
    Calls Try.prog 17 #[.nilIface, .int .i64 0, .int .i64 at'] w fun e w' => e = .returned (.bool true) ∧ Below w.heap.size w w' := by
  go_enter Try.func17, Try.ntmps17
  go_wp2
  go_ret
  exact ⟨rfl, Below.refl _ _⟩
set_option maxRecDepth 100000 in
theorem tells_spot (no at' : Int) (h : no ≠ 0) (w : World) :
    Calls Try.prog 17 #[.iface 81 (.agg #[.int .i64 no, .int .i64 at']), .int .i64 no, .int .i64 at'] w fun e w' => e = .returned (.bool true) ∧ Below w.heap.size w w' := by
  have h0 : (no == 0) = false := by rw [beq_eq_false_iff_ne]; exact h
  clear h
  go_enter Try.func17, Try.ntmps17
  go_wp2_with fail
  refine (spot_yes no at' _).mono ?_
  rintro e w1 ⟨rfl, hb⟩
  go_wp2_with fail
  go_ret
  exact ⟨rfl, hb⟩
theorem beyond_any (n : Int) (w : World) : Calls Try.prog 14 #[.int .i64 n] w fun e w' => e = .returned (.bool (decide (2147483647 < n))) ∧ w = w' := by
  go_enter Try.func14, Try.ntmps14
  go_wp2
  go_ret
  exact ⟨rfl, rfl⟩
end Go.Proofs.Ytjbhehkkigopmaa
