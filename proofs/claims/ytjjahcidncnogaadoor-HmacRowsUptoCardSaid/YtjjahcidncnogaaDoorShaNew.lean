/- First, New, Len: contracts. -/
import Derived.Test.YtjjahcidncnogaaDoorShaTake
namespace Go.Proofs.YtjjahcidncnogaaDoor
open Go.RowKit Go.Lib

/-- The first state. -/
def firstI : List Int := [0x6a09e667, 0xbb67ae85, 0x3c6ef372, 0xa54ff53a, 0x510e527f, 0x9b05688c, 0x1f83d9ab, 0x5be0cd19]
def zeroB : List UInt8 := List.replicate 64 0

set_option maxRecDepth 100000 in
theorem first_any (w : World) : Calls Tryd.prog 26 #[] w fun e w' => e = .returned (.agg (cells32 firstI)) ∧ Below w.heap.size w w' := by
  have hsS : (Tryd.prog.info? 26).map (·.size) = some (cells32 firstI).size := by rw [cells32_size]; exact sizeState
  have HSS := Lib.hid hsS
  clear hsS
  go_enter Tryd.func26, Tryd.ntmps26
  go_wp2_with (refine wpList_store_row rfl 26 (.tmp 0) (.tmp 1) rfl w.heap.size (cells32 firstI) rfl rfl 26 (cells32 zeros8) ?hg HSS.out rfl (cells32_one _) ?_)
  case hg => exact (MapKept.heap_alloc w _).1
  have e0 := World.setRow_alloc_new w (cells32 zeros8) (cells32 firstI) 26
  have HG : Below w.heap.size w (w.alloc (.cells (cells32 firstI) 26)) := (Below.refl _ w).alloc (Nat.le_refl _) _
  have HV : (w.alloc (.cells (cells32 firstI) 26)).heap[w.heap.size]? = some (.cells (cells32 firstI) 26 (0, 0)) := (MapKept.heap_alloc w _).1
  rw [← e0] at HG HV
  exact bodyPost_ret (results_cell_row rfl _ _ w.heap.size 26 (cells32 firstI) (0, 0) _ rfl HV Tryd.underlying26 rfl HSS.out) rfl ⟨rfl, HG⟩

theorem built_hash : Array.foldl (fun (cs : Array Value) (x : Value × Nat) => cs.setIfInBounds x.2 x.1) Tryd.zeroCells114 (cells32 firstI).zipIdx 0 (cells32 firstI).size = (hcells firstI 0 zeroB 0).toArray := by kernel_rfl

set_option maxRecDepth 100000 in
theorem new_any (w : World) : Calls Tryd.prog 19 #[] w fun e w' => ∃ B, e = .returned (.pointer (some ⟨B, 0, none⟩)) ∧ w.heap.size ≤ B ∧ Took B firstI 0 [] w' ∧ Below w.heap.size w w' := by
  have HF := Lib.hid (fun w => first_any w)
  go_enter Tryd.func19, Tryd.ntmps19
  go_wp2_with fail
  refine (HF.out _).mono ?_
  rintro e w1 ⟨rfl, hb⟩
  go_wp2_with fail
  rw [built_hash]
  go_ret
  refine ⟨w1.heap.size, rfl, hb.size, ⟨zeroB, ⟨(MapKept.heap_alloc w1 _).1, rfl, rfl⟩, rfl⟩, hb.alloc hb.size _⟩

set_option maxRecDepth 100000 in
theorem len_any (b : Nat) (st : List Int) (bl : Int) (rest : List UInt8) (held : Int) (w : World) (hH : HB w b st bl rest held) : Calls Tryd.prog 73 #[.pointer (some ⟨b, 0, none⟩)] w fun e w' => e = .returned (.int .u64 ((bl * 64 + held) % 18446744073709551616)) ∧ ∃ n, w' = w.drewN n := by
  have c1 := hH.blocks
  have c2 := hH.held
  clear hH
  go_enter Tryd.func73, Tryd.ntmps73
  go_wp2_with fail
  go_quiet (fail)
  go_wp2_with fail
  go_ret
  refine ⟨?_, _, rfl⟩
  show Ending.returned (.int .u64 ((bl * 64 % 18446744073709551616 + held % 18446744073709551616) % 18446744073709551616)) = _
  congr 2
  omega
end Go.Proofs.YtjjahcidncnogaaDoor
