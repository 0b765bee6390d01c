/- What affidavitlaw06 asks of a Spot by itself. -/
import Derived.Test.YtaaiikjjfleooaaIs
import Derived.Test.YtaaiikjjfleooaaPut
namespace Go.Proofs.Ytaaiikjjfleooaa
open Go.RowKit Go.Stop

theorem spotSpot (v : Value) (w : World) : (Instr.typeAssert (.iface 78 v) 26 78 true).run Try.prog w = .ok (.tuple #[v, .bool true]) w := by kernel_rfl

set_option maxRecDepth 100000 in
set_option maxHeartbeats 1000000 in
theorem spot_yes (no at' : Int) (w : World) :
    Calls Try.prog 22 #[.iface 78 (.agg #[.int .i64 no, .int .i64 at']), .int .i64 no, .int .i64 at'] w fun e w' => e = .returned (.bool true) ∧ Below w.heap.size w w' := by
  have a1 := spotSpot
  have HI := Lib.hid (is_spot no at')
  go_enter Try.func22, Try.ntmps22
  go_wp2_with fail
  refine (HI.out _).mono ?_
  rintro e w1 ⟨rfl, hb⟩
  go_wp2
  go_ret
  exact ⟨rfl, Below.trans (by go_grown) (hb.mono (by simp))⟩
end Go.Proofs.Ytaaiikjjfleooaa
