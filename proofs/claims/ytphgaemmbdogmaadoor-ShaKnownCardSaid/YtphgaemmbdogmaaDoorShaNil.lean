/- A hash that is not there; what Resume refuses. -/
import Derived.Test.YtphgaemmbdogmaaDoorShaTab
import Derived.Test.YtphgaemmbdogmaaDoorShaResume
import Derived.Test.YtphgaemmbdogmaaDoorShaPadC
namespace Go.Proofs.YtphgaemmbdogmaaDoor
open Go.ChangeShapes Go.WideShapes Go.ChangeAt Go.RowKit Go.Lib

set_option maxRecDepth 100000 in
theorem write_nil (v : Value) (w : World) : Calls Tryd.prog 21 #[.pointer none, v] w fun e w' => e = .returned (.iface 84 (.int .i64 1)) ∧ w' = w := by
  go_enter Tryd.func21, Tryd.ntmps21
  go_wp2_with fail
  go_ret
  exact ⟨rfl, rfl⟩
set_option maxRecDepth 100000 in
theorem len_nil (w : World) : Calls Tryd.prog 23 #[.pointer none] w fun e w' => e = .returned (.int .u64 0) ∧ w' = w := by
  go_enter Tryd.func23, Tryd.ntmps23
  go_wp2_with fail
  go_ret
  exact ⟨rfl, rfl⟩
set_option maxRecDepth 100000 in
theorem copy_nil (w : World) : Calls Tryd.prog 24 #[.pointer none] w fun e w' => e = .returned (.pointer none) ∧ w' = w := by
  go_enter Tryd.func24, Tryd.ntmps24
  go_wp2_with fail
  go_ret
  exact ⟨rfl, rfl⟩
set_option maxRecDepth 100000 in
theorem reset_nil (w : World) : Calls Tryd.prog 26 #[.pointer none] w fun e w' => e = .returned (.tuple #[]) ∧ w' = w := by
  go_enter Tryd.func26, Tryd.ntmps26
  go_wp2_with fail
  go_returns
  exact ⟨rfl, rfl⟩
set_option maxRecDepth 100000 in
theorem sum_nil (w : World) : Calls Tryd.prog 22 #[.pointer none] w fun e w' => e = .returned (dig zero32) ∧ Below w.heap.size w w' := by
  have HI := Lib.hid (dig_size zero32 rfl)
  have H1 := Lib.hid (dig_one zero32)
  have HR : Hid (((w.alloc (.cells (Go.Lib.byteCells zero32).toArray 24)).setRow w.heap.size (Go.Lib.byteCells zero32).toArray).heap[w.heap.size]? = some (.cells (Go.Lib.byteCells zero32).toArray 24 (0, 0))) := Lib.hid (by
    rw [World.setRow_alloc_new]
    exact (MapKept.heap_alloc _ _).1)
  have HG : Hid (Below w.heap.size w ((w.alloc (.cells (Go.Lib.byteCells zero32).toArray 24)).setRow w.heap.size (Go.Lib.byteCells zero32).toArray)) := Lib.hid (by
    rw [World.setRow_alloc_new]
    exact (Below.refl _ w).alloc (Nat.le_refl _) _)
  go_enter Tryd.func22, Tryd.ntmps22
  go_wp2_with (refine wpList_store_row rfl 24 (.tmp 2) (.tmp 10) rfl w.heap.size (Go.Lib.byteCells zero32).toArray rfl rfl 24 _ (MapKept.heap_alloc _ _).1 HI.out rfl H1.out ?_)
  exact bodyPost_ret (results_cell_row rfl _ _ w.heap.size 24 _ (0, 0) _ rfl HR.out Tryd.underlying24 rfl HI.out) rfl ⟨rfl, HG.out⟩
theorem zeroMid_one : zeroMid.toArray.all (·.oneCell') = true := by kernel_rfl
theorem zeroMid_size : (Tryd.prog.info? 42).map (·.size) = some zeroMid.toArray.size := by kernel_rfl
set_option maxRecDepth 100000 in
theorem mid_nil (w : World) : Calls Tryd.prog 25 #[.pointer none] w fun e w' => e = .returned (.agg zeroMid.toArray) ∧ Below w.heap.size w w' := by
  have HI := Lib.hid zeroMid_size
  have H1 := Lib.hid zeroMid_one
  have HR : Hid (((w.alloc (.cells zeroMid.toArray 42)).setRow w.heap.size zeroMid.toArray).heap[w.heap.size]? = some (.cells zeroMid.toArray 42 (0, 0))) := Lib.hid (by
    rw [World.setRow_alloc_new]
    exact (MapKept.heap_alloc _ _).1)
  have HG : Hid (Below w.heap.size w ((w.alloc (.cells zeroMid.toArray 42)).setRow w.heap.size zeroMid.toArray)) := Lib.hid (by
    rw [World.setRow_alloc_new]
    exact (Below.refl _ w).alloc (Nat.le_refl _) _)
  go_enter Tryd.func25, Tryd.ntmps25
  go_wp2_with (refine wpList_store_row rfl 42 (.tmp 2) (.tmp 5) rfl w.heap.size zeroMid.toArray rfl rfl 42 _ (MapKept.heap_alloc _ _).1 HI.out rfl H1.out ?_)
  exact bodyPost_ret (results_cell_row rfl _ _ w.heap.size 42 _ (0, 0) _ rfl HR.out Tryd.underlying42 rfl HI.out) rfl ⟨rfl, HG.out⟩
set_option maxRecDepth 100000 in
/-- What Resume refuses. -/
theorem resume_not (st : List Int) (hs : st.length = 8) (bl : Nat) (q : Option Addr) (d c : Nat) (n : Int) (hn : (64 ≤ d ∧ n = 2) ∨ (d < 64 ∧ 36028797018963968 ≤ bl ∧ n = 3)) (w : World) :
    Calls Tryd.prog 27 #[midV st (bl : Int) (.slice q d c)] w fun e w' => e = .returned (.tuple #[.pointer none, .iface 84 (.int .i64 n)]) ∧ Below w.heap.size w w' := by
  obtain ⟨x0, x1, x2, x3, x4, x5, x6, x7, rfl⟩ := list8 st hs
  have HG : Hid (∀ C, Below w.heap.size w (w.alloc (.cells C 42))) := Lib.hid (fun C => (Below.refl _ w).alloc (Nat.le_refl _) _)
  unfold midV
  rcases hn with ⟨h1, rfl⟩ | ⟨h1, h2, rfl⟩
  · have hd1 : decide ((64 : Int) ≤ (d : Int)) = true := decide_eq_true (by omega)
    go_enter Tryd.func27, Tryd.ntmps27
    go_wp2_with fail
    go_ret2
    exact ⟨rfl, HG.out _⟩
  · have hd1 : decide ((64 : Int) ≤ (d : Int)) = false := decide_eq_false (by omega)
    have hd2 : decide ((36028797018963968 : Int) ≤ (bl : Int)) = true := decide_eq_true (by omega)
    go_enter Tryd.func27, Tryd.ntmps27
    go_wp2_with fail
    go_ret2
    exact ⟨rfl, HG.out _⟩
end Go.Proofs.YtphgaemmbdogmaaDoor
