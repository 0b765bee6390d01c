/- What affidavitlaw03 asks of errors: spot, errno, tells. -/
import Derived.Test.YtjbhehkkigopmaaIs
namespace Go.Proofs.Ytjbhehkkigopmaa
open Go.RowKit Go.Stop

theorem spotSpot (v : Value) (w : World) : (Instr.typeAssert (.iface 81 v) 30 81 true).run Try.prog w = .ok (.tuple #[v, .bool true]) w := by kernel_rfl
theorem placedSpot (v : Value) (xT : TypeId) (w : World) : (Instr.typeAssert (.iface 81 v) xT 84 true).run Try.prog w = .ok (.tuple #[.iface 81 v, .bool true]) w :=
  run_typeAssert_hasB Try.underlying84 (by kernel_rfl) v xT w
theorem locatedSpot (v : Value) (xT : TypeId) (w : World) : (Instr.typeAssert (.iface 81 v) xT 87 true).run Try.prog w = .ok (.tuple #[.nilIface, .bool false]) w :=
  run_typeAssert_lacksB Try.underlying87 (by kernel_rfl) (by kernel_rfl) v xT w
theorem assertErrno (v : Value) (w : World) : (Instr.typeAssert (.iface 24 v) 30 24 true).run Try.prog w = .ok (.tuple #[v, .bool true]) w := by kernel_rfl

set_option maxRecDepth 100000 in
set_option maxHeartbeats 4000000 in
theorem spot_yes (no at' : Int) (w : World) :
    Calls Try.prog 22 #[.iface 81 (.agg #[.int .i64 no, .int .i64 at']), .int .i64 no, .int .i64 at'] w fun e w' => e = .returned (.bool true) ∧ Below w.heap.size w w' := by
  have a1 := spotSpot
  have a2 := placedSpot
  have a3 := locatedSpot
  go_enter Try.func22, Try.ntmps22
  go_wp2_with (first
    | (go_at_call 49; refine (is_spot no at' _).mono ?_)
    | go_in)
  rintro e w1 ⟨rfl, hb⟩
  go_wp2
  go_ret
  exact ⟨rfl, Below.trans (by go_grown) (hb.mono (by simp <;> omega))⟩

set_option maxRecDepth 100000 in
theorem errno_yes (no : Int) (w : World) :
    Calls Try.prog 26 #[.iface 24 (.int .i64 no), .int .i64 no] w fun e w' => e = .returned (.bool true) ∧ w' = w := by
  have ha := assertErrno
  go_enter Try.func26, Try.ntmps26
  go_wp2
  go_ret
  exact ⟨rfl, rfl⟩
end Go.Proofs.Ytjbhehkkigopmaa
