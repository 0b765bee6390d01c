/- Plain SHA-256 over numbers as the program reckons them, and the contract of sha's turn. -/
import Derived.Test.YtjjahcidncnogaaDoorRows
import Derived.WalkKit
import Derived.Handy
import Derived.Lib.Hide
import Derived.ProofKit
import Derived.Laws.BitsLemmas
namespace Go.Proofs.YtjjahcidncnogaaDoor
open Go.RowKit Go.Lib

/-- x, turned right by n bits. -/
def turnI (x : Int) (n : Nat) : Int := bits .or .u32 (x / 2 ^ n) (x * 2 ^ (32 - n) % 4294967296)

set_option maxRecDepth 100000 in
theorem turn_any (x : Int) (n : Nat) (hn : n = 6 ∨ n = 11 ∨ n = 25 ∨ n = 2 ∨ n = 13 ∨ n = 22 ∨ n = 7 ∨ n = 18 ∨ n = 17 ∨ n = 19) (w : World) :
    Calls Tryd.prog 104 #[.int .u32 x, .int .u64 (n : Int)] w fun e w' => e = .returned (.int .u32 (turnI x n)) ∧ w = w' := by
  rcases hn with rfl | rfl | rfl | rfl | rfl | rfl | rfl | rfl | rfl | rfl
  all_goals
    go_enter Tryd.func104, Tryd.ntmps104
    go_wp2
    go_ret
    exact ⟨rfl, rfl⟩
end Go.Proofs.YtjjahcidncnogaaDoor
