/- errors.Is of a Spot and its number: true; and of a number and itself. -/
import Derived.Test.YtjbhehkkigopmaaRows
import Derived.WalkKit
import Derived.Handy
import Derived.WideLaws
import Derived.Laws.Externs
import Derived.Laws.StructEq
import Derived.Stop.Asserts
import Derived.Lib.Hide
namespace Go.Proofs.Ytjbhehkkigopmaa
open Go.RowKit Go.Stop

theorem isTypeOf (v : Value) (w : World) : (Extern.ReflectliteType.typeOf #[.iface 24 v]).run Try.prog w = .ok (.iface 119 (.agg #[.pointer (some ⟨1, 24, none⟩)])) w := by kernel_rfl
/-- What an rtype answers of Comparable. -/
def rtypeComparable : Array Value → Sem Value := Extern.ReflectliteType.method fun t => do Extern.Rtype.noPackHeld "Comparable" t; pure (.bool (← typeInfo t).comparable)
theorem isComparable (w : World) : (rtypeComparable #[.agg #[.pointer (some ⟨1, 24, none⟩)]]).run Try.prog w = .ok (.bool true) w := by kernel_rfl

theorem noIsSpot (v : Value) (xT : TypeId) (w : World) : (Instr.typeAssert (.iface 81 v) xT 121 true).run Try.prog w = .ok (.tuple #[.nilIface, .bool false]) w :=
  run_typeAssert_lacksB Try.underlying121 (by kernel_rfl) (by kernel_rfl) v xT w
theorem unwrapSpot (v : Value) (xT : TypeId) (w : World) : (Instr.typeAssert (.iface 81 v) xT 124 true).run Try.prog w = .ok (.tuple #[.iface 81 v, .bool true]) w :=
  run_typeAssert_hasB Try.underlying124 (by kernel_rfl) v xT w
theorem otherTypes (u v : Value) (w : World) : (binOp .eql 30 (.iface 81 u) (.iface 24 v)).run Try.prog w = .ok (.bool false) w :=
  run_eql_iface_types _ _ u v Try.underlying30 (by decide) w

theorem errnoComp : (Try.prog.info? 24).map (·.comparable) = some true := by kernel_rfl
/-- A number and itself, as errors: one by ==. -/
theorem sameErrno (n : Int) (w : World) : (binOp .eql 30 (.iface 24 (.int .i64 n)) (.iface 24 (.int .i64 n))).run Try.prog w = .ok (.bool true) w := by
  obtain ⟨i, hi, hc⟩ := Option.map_eq_some_iff.1 errnoComp
  have h : ∀ d : Nat, (Op.equalIn (d + 2) 30 (.iface 24 (.int .i64 n)) (.iface 24 (.int .i64 n))).run Try.prog w = .ok true w := fun d => by
    simp [Op.equalIn, run_underlying Try.underlying30, run_underlying Try.underlying24, typeInfo, hi, hc]
  simp only [binOp]
  simp [Op.equal, Op.maxDepth, h 9998]

set_option maxRecDepth 100000 in
set_option maxHeartbeats 4000000 in
theorem is_spot (no at' : Int) (w : World) :
    Calls Try.prog 49 #[.iface 81 (.agg #[.int .i64 no, .int .i64 at']), .iface 24 (.int .i64 no)] w fun e w' => e = .returned (.bool true) ∧ Below w.heap.size w w' := by
  have h8 := @run_callFunc_extern Try.prog 63 _ Extern.ReflectliteType.typeOf Try.func63 (by kernel_rfl) (by kernel_rfl) (by kernel_rfl) (by kernel_rfl)
  have h32 := @run_callFunc_extern Try.prog 94 _ rtypeComparable Try.func94 (by kernel_rfl) (by kernel_rfl) (by kernel_rfl) (by kernel_rfl)
  have tT := isTypeOf
  have cT := isComparable
  have a1 := noIsSpot
  have a2 := unwrapSpot
  have a3 := otherTypes
  have a4 := sameErrno
  go_enter Try.func49, Try.ntmps49
  go_wp2
  refine wp_loop_rounds 2 ?_
  rw [rounds_succ]
  go_wp2
  rw [rounds_succ]
  go_wp2
  go_ret
  exact ⟨rfl, by go_grown⟩
end Go.Proofs.Ytjbhehkkigopmaa
