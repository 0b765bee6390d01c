/- The contracts of math\/bits.Mul64, wide.Mul, and of the reference's parts: each returns what plain arithmetic says; the world has at most new blocks. -/
import Derived.Test.YtjppdlgeigocgaaRows
import Derived.Test.YtjppdlgeigocgaaArith
import Derived.WalkKit
import Derived.ProofKit
import Derived.OpenShut
import Derived.WalkSpells
import Derived.StillTactics
import Derived.Laws.Pointers
import Derived.Deep.RegionHeld3
import Derived.RowKit3
import Derived.Shelf.Bits.Mul64
import Derived.Lib.Hide
namespace Go.Proofs.Ytjppdlgeigocgaa
open Go.RowKit Go.Lib

/-- What a reading hands over of a uint64. -/
theorem nat_of_wf {x : Int} (h : (Lit.int .u64 x).wf = true) : ∃ n : Nat, n < 18446744073709551616 ∧ x = n := by
  simp [Lit.wf, IntKind.min, IntKind.max, IntKind.signed, IntKind.bits] at h
  exact ⟨x.toNat, by omega, by omega⟩

theorem grown_trans {a b c : World} (h : Grown a b) (g : Grown b c) : Grown a c :=
  ⟨World.keptBut_trans h.1 g.1, fun x => (g.2.1 x).trans (h.2.1 x), Nat.le_trans h.2.2 g.2.2⟩

set_option maxHeartbeats 1000000 in
theorem mul64_any (x y : Nat) (hx : x < 18446744073709551616) (hy : y < 18446744073709551616) (w : World) :
    Calls Try.prog 7 #[.int .u64 x, .int .u64 y] w fun e w' => e = .returned (.tuple #[.int .u64 ((x * y / 18446744073709551616 : Nat) : Int), .int .u64 ((x * y % 18446744073709551616 : Nat) : Int)]) ∧ w' = w := by
  obtain ⟨bd, bt, bw, hhi⟩ := Lib.mul64_hi x y hx hy
  have ba := Lib.half_mul_le (a := x / 4294967296) (b := y / 4294967296) (by omega) (by omega)
  have bb := Lib.half_mul_le (a := x / 4294967296) (b := y % 4294967296) (by omega) (by omega)
  have bc := Lib.half_mul_le (a := x % 4294967296) (b := y / 4294967296) (by omega) (by omega)
  have ba' : x / 4294967296 * (y / 4294967296) < 18446744073709551616 := by omega
  have bb' : x / 4294967296 * (y % 4294967296) < 18446744073709551616 := by omega
  have bc' : x % 4294967296 * (y / 4294967296) < 18446744073709551616 := by omega
  have bh1 : x / 4294967296 * (y / 4294967296) + (x / 4294967296 * (y % 4294967296) + x % 4294967296 * (y % 4294967296) / 4294967296) / 4294967296 < 18446744073709551616 := by omega
  have bh : x / 4294967296 * (y / 4294967296) + (x / 4294967296 * (y % 4294967296) + x % 4294967296 * (y % 4294967296) / 4294967296) / 4294967296 + ((x / 4294967296 * (y % 4294967296) + x % 4294967296 * (y % 4294967296) / 4294967296) % 4294967296 + x % 4294967296 * (y / 4294967296)) / 4294967296 < 18446744073709551616 := by omega
  go_enter Try.func7, Try.ntmps7
  go_wp2
  simp only [Mul64.maskN x hx, Mul64.maskN y hy, Mul64.divN, Mul64.mulN, Mul64.addN, Mul64.wrapN _ bd, Mul64.wrapN _ bb', Mul64.wrapN _ bt, Mul64.maskN _ bt, Mul64.wrapN _ bc', Mul64.wrapN _ bw, Mul64.wrapN _ ba', Mul64.wrapN _ bh1, Mul64.wrapN _ bh, Mul64.wrapM (x * y)]
  rw [hhi]
  go_ret2
  exact ⟨rfl, rfl⟩

theorem mul_any (x y : Nat) (hx : x < 18446744073709551616) (hy : y < 18446744073709551616) (w : World) :
    Calls Try.prog 4 #[.int .u64 x, .int .u64 y] w fun e w' => e = .returned (.agg #[.int .u64 ((x * y / 18446744073709551616 : Nat) : Int), .int .u64 ((x * y % 18446744073709551616 : Nat) : Int)]) ∧ ∃ c1 : Array Value, w' = w.alloc (.cells c1 24) := by
  go_enter Try.func4, Try.ntmps4
  go_wp2_with (go_at_call 7; refine (mul64_any x y hx hy _).mono ?_; rintro e w' ⟨rfl, rfl⟩)
  simp [bodyPost, results, Try.results4, go_sem]
  exact ⟨_, rfl⟩

/-- (Four).Hi. -/
theorem fourHi_any (a b c d : Nat) (hc : c < 4294967296) (hd : d < 4294967296) (w : World) :
    Calls Try.prog 8 #[.agg #[.int .u64 a, .int .u64 b, .int .u64 c, .int .u64 d]] w fun e w' => e = .returned (.int .u64 ((d * 4294967296 + c : Nat) : Int)) ∧ ∃ c1 : Array Value, w' = w.alloc (.cells c1 28) := by
  go_enter Try.func8, Try.ntmps8
  go_wp2
  go_ret
  exact ⟨ret_int (bits_join d c hd hc), _, rfl⟩

/-- (Four).Lo. -/
theorem fourLo_any (a b c d : Nat) (ha : a < 4294967296) (hb : b < 4294967296) (w : World) :
    Calls Try.prog 9 #[.agg #[.int .u64 a, .int .u64 b, .int .u64 c, .int .u64 d]] w fun e w' => e = .returned (.int .u64 ((b * 4294967296 + a : Nat) : Int)) ∧ ∃ c1 : Array Value, w' = w.alloc (.cells c1 28) := by
  go_enter Try.func9, Try.ntmps9
  go_wp2
  go_ret
  exact ⟨ret_int (bits_join b a hb ha), _, rfl⟩

/-- pair: four parts as a pair. -/
theorem pair_any (a b c d : Nat) (ha : a < 4294967296) (hb : b < 4294967296) (hc : c < 4294967296) (hd : d < 4294967296) (w : World) :
    Calls Try.prog 5 #[.agg #[.int .u64 a, .int .u64 b, .int .u64 c, .int .u64 d]] w fun e w' => e = .returned (.agg #[.int .u64 ((d * 4294967296 + c : Nat) : Int), .int .u64 ((b * 4294967296 + a : Nat) : Int)]) ∧ Grown w w' := by
  go_enter Try.func5, Try.ntmps5
  go_wp2
  go_region_held3 (fun w' => w'.cell? ⟨w.heap.size, 0, none⟩ = some (.int .u64 a) ∧ w'.cell? ⟨w.heap.size, 1, none⟩ = some (.int .u64 b) ∧ w'.cell? ⟨w.heap.size, 2, none⟩ = some (.int .u64 c) ∧ w'.cell? ⟨w.heap.size, 3, none⟩ = some (.int .u64 d)) (simp [go_sem, World.cell?_alloc_past])
    (first
      | (go_at_call 8; refine (fourHi_any a b c d hc hd _).mono ?_; rintro e w' ⟨rfl, o1, rfl⟩)
      | (go_at_call 9; refine (fourLo_any a b c d ha hb _).mono ?_; rintro e w' ⟨rfl, o1, rfl⟩))
  go_wp2
  refine bodyPost_ret (v := .agg #[.int .u64 ((d : Int) * 4294967296 + c), .int .u64 ((b : Int) * 4294967296 + a)]) (by simp [results, Try.results5, go_sem]) rfl ⟨by simp, ?_⟩
  repeat (first | exact Grown.refl _ | apply Grown.drew | apply Grown.alloc)

set_option maxHeartbeats 1000000 in
/-- The reference's Mul: its four parts are those of the product. -/
theorem refMul_any (x y : Nat) (hx : x < 18446744073709551616) (hy : y < 18446744073709551616) (w : World) :
    Calls Try.prog 6 #[.int .u64 x, .int .u64 y] w fun e w' => (∃ a b c d : Nat, a < 4294967296 ∧ b < 4294967296 ∧ c < 4294967296 ∧ d < 4294967296 ∧ d * 4294967296 + c = x * y / 18446744073709551616 ∧ b * 4294967296 + a = x * y % 18446744073709551616 ∧
      e = .returned (.agg #[.int .u64 a, .int .u64 b, .int .u64 c, .int .u64 d])) ∧ ∃ c1 : Array Value, w' = w.alloc (.cells c1 28) := by
  obtain ⟨b0, b1, b2, b3, b4, b5⟩ := school x y hx hy
  have hl := hi_lt x y hx hy
  have ba := Lib.half_mul_le (a := x / 4294967296) (b := y / 4294967296) (by omega) (by omega)
  have bb := Lib.half_mul_le (a := x / 4294967296) (b := y % 4294967296) (by omega) (by omega)
  have bc := Lib.half_mul_le (a := x % 4294967296) (b := y / 4294967296) (by omega) (by omega)
  have ba' : x / 4294967296 * (y / 4294967296) < 18446744073709551616 := by omega
  have bb' : x / 4294967296 * (y % 4294967296) < 18446744073709551616 := by omega
  have bc' : x % 4294967296 * (y / 4294967296) < 18446744073709551616 := by omega
  have bs := hl
  rw [← b4] at bs
  have H4 := Lib.hid b4
  clear b4 b5
  go_enter Try.func6, Try.ntmps6
  go_wp2
  simp only [Mul64.maskN x hx, Mul64.maskN y hy, Mul64.divN, Mul64.mulN, Mul64.addN, Mul64.wrapN _ b0, Mul64.wrapN _ bb', Mul64.wrapN _ b1, Mul64.maskN _ b1, Mul64.wrapN _ bc', Mul64.wrapN _ b2, Mul64.wrapN _ ba', Mul64.wrapN _ b3, Mul64.wrapN _ bs, Mul64.maskN _ b0, Mul64.maskN _ b2, Mul64.maskN _ bs]
  refine bodyPost_ret (v := .agg #[.int .u64 (_ : Nat), .int .u64 (_ : Nat), .int .u64 (_ : Nat), .int .u64 (_ : Nat)]) (by simp [results, Try.results6, go_sem]; exact ⟨rfl, rfl, rfl, rfl⟩) rfl ⟨⟨_, _, _, _, ?_, ?_, ?_, ?_, ?_, ?_, rfl⟩, _, rfl⟩
  all_goals simp only [natAbs_half]
  · exact Nat.mod_lt _ (by decide)
  · exact Nat.mod_lt _ (by decide)
  · exact Nat.mod_lt _ (by decide)
  · exact Nat.div_lt_of_lt_mul bs
  · rw [Nat.div_add_mod']; exact H4.out
  · exact school_lo x y hx hy
end Go.Proofs.Ytjppdlgeigocgaa
