/- The paddings that ShaKnown asks for. -/
import Derived.Test.YtphgaemmbdogmaaDoorShaPadC
namespace Go.Proofs.YtphgaemmbdogmaaDoor
open Go.ChangeShapes Go.WideShapes Go.ChangeAt Go.RowKit Go.Lib

theorem whole_cell {b : Nat} {l : List UInt8} {w : World} (h : Whole b l w) (j : Nat) (x : UInt8) (hx : l[j]? = some x) : w.cell? ⟨b, j, none⟩ = some (.int .u8 (x.toNat : Int)) := by
  have hb : w.heap[b]? = some (.cells (Go.Lib.byteCells l).toArray 5 (0, 0)) := h
  rw [cell_of_heap hb, List.getElem?_toArray]
  simp [Go.Lib.byteCells, hx]
theorem pad0 (w : World) : Calls Tryd.prog 19 #[.int .u64 0] w fun e w' => e = .returned (.tuple #[.slice (some ⟨w.heap.size, 0, none⟩) 64 64, .nilIface]) ∧ w'.cell? ⟨w.heap.size, 0, none⟩ = some (.int .u8 128) ∧ w.heap.size < w'.heap.size ∧ Below w.heap.size w w' := by
  refine (pad_ok 0 (by decide) w).mono ?_
  rintro e w' ⟨rfl, hw, hb⟩
  exact ⟨by rw [show (padL 0).length = 64 by decide], whole_cell hw 0 128 (by decide), World.block_lt_of_cell? _ _ (whole_cell hw 0 128 (by decide)), hb⟩
theorem pad55 (w : World) : Calls Tryd.prog 19 #[.int .u64 55] w fun e w' => e = .returned (.tuple #[.slice (some ⟨w.heap.size, 0, none⟩) 9 9, .nilIface]) ∧ w'.cell? ⟨w.heap.size, 7, none⟩ = some (.int .u8 1) ∧ w'.cell? ⟨w.heap.size, 8, none⟩ = some (.int .u8 184) ∧ w.heap.size < w'.heap.size ∧ Below w.heap.size w w' := by
  refine (pad_ok 55 (by decide) w).mono ?_
  rintro e w' ⟨rfl, hw, hb⟩
  exact ⟨by rw [show (padL 55).length = 9 by decide], whole_cell hw 7 1 (by decide), whole_cell hw 8 184 (by decide), World.block_lt_of_cell? _ _ (whole_cell hw 7 1 (by decide)), hb⟩
theorem pad56 (w : World) : Calls Tryd.prog 19 #[.int .u64 56] w fun e w' => e = .returned (.tuple #[.slice (some ⟨w.heap.size, 0, none⟩) 72 72, .nilIface]) ∧ Below w.heap.size w w' := by
  refine (pad_ok 56 (by decide) w).mono ?_
  rintro e w' ⟨rfl, hw, hb⟩
  exact ⟨by rw [show (padL 56).length = 72 by decide], hb⟩
theorem make_bytes (m : Nat) (hm : m < 1000) (w : World) : (Instr.makeSlice 29 (.int .i64 (m : Int)) (.int .i64 (m : Int))).run Tryd.prog w = .ok (.slice (some ⟨w.heap.size, 0, none⟩) m m) (w.alloc (.cells (madeCells #[.int .u8 0] m) 5)) := by
  obtain ⟨i0, hi, hz0, hz1, hz2⟩ := info_parts infoByte
  have h := run_make (P := Tryd.prog) w 29 5 i0 (.int .u8 0) Tryd.underlying29 hi hz0 .i64 .i64 (m : Int) (m : Int) (by omega) (by omega) (by rw [hz2]; omega) (by omega)
  rw [hz1, Nat.mul_one, Int.toNat_natCast] at h
  exact h
theorem made_cell (m j : Nat) (hj : j < m) (w w' : World) (h : w'.heap[w.heap.size]? = some (.cells (madeCells #[.int .u8 0] m) 5 (0, 0))) : w'.cell? ⟨w.heap.size, j, none⟩ = some (.int .u8 0) := by
  rw [cell_of_heap h]
  rw [← Array.getElem?_toList, toList_madeCells_one]
  simp [hj]
end Go.Proofs.YtphgaemmbdogmaaDoor
