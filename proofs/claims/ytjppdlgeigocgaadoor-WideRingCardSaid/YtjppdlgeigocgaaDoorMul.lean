/- The contracts of math\/bits.Mul64, wide.Mul, and of the reference's parts: each returns what plain arithmetic says; the world has at most new blocks. -/
import Derived.Test.YtjppdlgeigocgaaDoorRows
import Derived.Test.YtjppdlgeigocgaaDoorArith
import Derived.Test.YtjppdlgeigocgaaDoorShelf
import Derived.WalkKit
import Derived.ProofKit
import Derived.OpenShut
import Derived.WalkSpells
import Derived.StillTactics
import Derived.Laws.Pointers
import Derived.Deep.RegionHeld3
import Derived.RowKit3
import Derived.Below
import Derived.Handy
import Derived.Shelf.Bits.Mul64
import Derived.Lib.Hide
namespace Go.Proofs.YtjppdlgeigocgaaDoor
open Go.RowKit Go.Lib

/-- What a reading hands over of a uint64. -/
theorem nat_of_wf {x : Int} (h : (Lit.int .u64 x).wf = true) : ∃ n : Nat, n < 18446744073709551616 ∧ x = n := by
  simp [Lit.wf, IntKind.min, IntKind.max, IntKind.signed, IntKind.bits] at h
  exact ⟨x.toNat, by omega, by omega⟩

/-- Two steps, each of which leaves all that was there. -/
theorem old_trans {a b c : World} (h : Below a.heap.size a b) (g : Below b.heap.size b c) : Below a.heap.size a c := h.trans (g.mono h.size)

/-- The library's product of words, at this program's own number. -/
theorem mul64_any (x y : Nat) (hx : x < 18446744073709551616) (hy : y < 18446744073709551616) (w : World) :
    Calls Tryd.prog 90 #[.int .u64 x, .int .u64 y] w fun e w' => e = .returned (.tuple #[.int .u64 ((x * y / 18446744073709551616 : Nat) : Int), .int .u64 ((x * y % 18446744073709551616 : Nat) : Int)]) ∧ w' = w :=
  Tryd.bits_Mul64 x y hx hy w

theorem mul_any (x y : Nat) (hx : x < 18446744073709551616) (hy : y < 18446744073709551616) (w : World) :
    Calls Tryd.prog 51 #[.int .u64 x, .int .u64 y] w fun e w' => e = .returned (.agg #[.int .u64 ((x * y / 18446744073709551616 : Nat) : Int), .int .u64 ((x * y % 18446744073709551616 : Nat) : Int)]) ∧ ∃ c1 : Array Value, w' = w.alloc (.cells c1 26) := by
  go_enter Tryd.func51, Tryd.ntmps51
  go_wp2_with (go_at_call 90; refine (mul64_any x y hx hy _).mono ?_; rintro e w' ⟨rfl, rfl⟩)
  simp [bodyPost, results, Tryd.results51, go_sem]
  exact ⟨_, rfl⟩

/-- (Four).Hi. -/
theorem fourHi_any (a b c d : Nat) (hc : c < 4294967296) (hd : d < 4294967296) (w : World) :
    Calls Tryd.prog 54 #[.agg #[.int .u64 a, .int .u64 b, .int .u64 c, .int .u64 d]] w fun e w' => e = .returned (.int .u64 ((d * 4294967296 + c : Nat) : Int)) ∧ ∃ c1 : Array Value, w' = w.alloc (.cells c1 30) := by
  go_enter Tryd.func54, Tryd.ntmps54
  go_wp2
  go_ret
  exact ⟨ret_int (bits_join d c hd hc), _, rfl⟩

/-- (Four).Lo. -/
theorem fourLo_any (a b c d : Nat) (ha : a < 4294967296) (hb : b < 4294967296) (w : World) :
    Calls Tryd.prog 55 #[.agg #[.int .u64 a, .int .u64 b, .int .u64 c, .int .u64 d]] w fun e w' => e = .returned (.int .u64 ((b * 4294967296 + a : Nat) : Int)) ∧ ∃ c1 : Array Value, w' = w.alloc (.cells c1 30) := by
  go_enter Tryd.func55, Tryd.ntmps55
  go_wp2
  go_ret
  exact ⟨ret_int (bits_join b a hb ha), _, rfl⟩

/-- pair: four parts as a pair. -/
theorem pair_any (a b c d : Nat) (ha : a < 4294967296) (hb : b < 4294967296) (hc : c < 4294967296) (hd : d < 4294967296) (w : World) :
    Calls Tryd.prog 17 #[.agg #[.int .u64 a, .int .u64 b, .int .u64 c, .int .u64 d]] w fun e w' => e = .returned (.agg #[.int .u64 ((d * 4294967296 + c : Nat) : Int), .int .u64 ((b * 4294967296 + a : Nat) : Int)]) ∧ Below w.heap.size w w' := by
  go_enter Tryd.func17, Tryd.ntmps17
  go_wp2
  go_region_held3 (fun w' => w'.cell? ⟨w.heap.size, 0, none⟩ = some (.int .u64 a) ∧ w'.cell? ⟨w.heap.size, 1, none⟩ = some (.int .u64 b) ∧ w'.cell? ⟨w.heap.size, 2, none⟩ = some (.int .u64 c) ∧ w'.cell? ⟨w.heap.size, 3, none⟩ = some (.int .u64 d)) (simp [go_sem, World.cell?_alloc_past])
    (first
      | (go_at_call 54; refine (fourHi_any a b c d hc hd _).mono ?_; rintro e w' ⟨rfl, o1, rfl⟩)
      | (go_at_call 55; refine (fourLo_any a b c d ha hb _).mono ?_; rintro e w' ⟨rfl, o1, rfl⟩))
  go_wp2
  refine bodyPost_ret (v := .agg #[.int .u64 ((d : Int) * 4294967296 + c), .int .u64 ((b : Int) * 4294967296 + a)]) (by simp [results, Tryd.results17, go_sem]) rfl ⟨by simp, ?_⟩
  go_grown

end Go.Proofs.YtjppdlgeigocgaaDoor
