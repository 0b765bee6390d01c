/- The methods of a book that is not there, and what affidavitlaw27 asks of an error. -/
import Derived.Test.YtmjnaedpncmgbaaDoorRows
import Derived.Test.YtmjnaedpncmgbaaDoorCards
import Derived.Test.YtmjnaedpncmgbaaDoorTie
import Derived.WalkKit
import Derived.Handy
import Derived.Deep.QuietTactic
import Derived.BigQuiet
import Derived.Deep.DeepHandedRow
import Derived.Lib.LaidTab
import Derived.Lib.Hide
import Derived.Carry
import Derived.ProofKit
import Derived.OpenShut
import Derived.ChangeKeysEq
import Derived.Deep.WholeRow
import Derived.Lib.UnsafeStr
import Derived.Laws.BitsLemmas
import Derived.Laws.MakeOwn
namespace Go.Proofs.YtmjnaedpncmgbaaDoor
open Go.ChangeShapes Go.WideShapes Go.ChangeAt Go.RowKit Go.Lib

theorem below_drewN {B : Nat} {a b : World} (n : Nat) (h : Below B a b) : Below B a (b.drewN n) := ⟨h.os, h.tape, h.output, h.size, h.block⟩
set_option maxHeartbeats 1000000 in
theorem assertErrno (v : Value) (w : World) : (Instr.typeAssert (.iface 41 v) 24 41 true).run Tryd.prog w = .ok (.tuple #[v, .bool true]) w := by kernel_rfl
set_option maxHeartbeats 1000000 in
theorem assertSpot (n : Int) (w : World) : (Instr.typeAssert (.iface 41 (.int .i64 n)) 24 60 true).run Tryd.prog w = .ok (.tuple #[.agg #[.int .i64 0, .int .i64 0], .bool false]) w := by kernel_rfl

set_option maxRecDepth 100000 in
theorem tellsNil (w : World) : Calls Tryd.prog 12 #[.iface 41 (.int .i64 1), .int .i64 1, .int .i64 (-1)] w fun e w' => e = .returned (.bool true) ∧ Below w.heap.size w w' := by
  have ha := assertErrno
  have hs := assertSpot
  go_enter Tryd.func12, Tryd.ntmps12
  go_wp2_with fail
  go_ret
  exact ⟨rfl, by go_grown⟩
set_option maxRecDepth 100000 in
theorem sizeNil (w : World) : Calls Tryd.prog 10 #[.pointer none] w fun e w' => e = .returned (.int .i64 0) ∧ Below w.heap.size w w' := by
  go_enter Tryd.func10, Tryd.ntmps10
  go_wp2_with fail
  go_ret
  exact ⟨rfl, Below.refl _ _⟩
set_option maxRecDepth 100000 in
theorem copyNil (w : World) : Calls Tryd.prog 11 #[.pointer none] w fun e w' => e = .returned (.pointer none) ∧ Below w.heap.size w w' := by
  go_enter Tryd.func11, Tryd.ntmps11
  go_wp2_with fail
  go_ret
  exact ⟨rfl, Below.refl _ _⟩
set_option maxRecDepth 100000 in
theorem checkNil (n : Int) (w : World) : Calls Tryd.prog 16 #[.pointer none, .int .i64 n] w fun e w' => e = .returned (.iface 41 (.int .i64 1)) ∧ Below w.heap.size w w' := by
  go_enter Tryd.func16, Tryd.ntmps16
  go_wp2_with fail
  go_ret
  exact ⟨rfl, Below.refl _ _⟩
set_option maxRecDepth 100000 in
theorem appendNil (s : Value) (w : World) : Calls Tryd.prog 4 #[.pointer none, s] w fun e w' => e = .returned (.tuple #[.int .i64 0, .iface 41 (.int .i64 1)]) ∧ Below w.heap.size w w' := by
  go_enter Tryd.func4, Tryd.ntmps4
  go_wp2_with fail
  go_ret2
  exact ⟨rfl, Below.refl _ _⟩
set_option maxRecDepth 100000 in
theorem entryNil (n : Int) (w : World) : Calls Tryd.prog 5 #[.pointer none, .int .i64 n] w fun e w' => e = .returned (.tuple #[.slice none 0 0, .iface 41 (.int .i64 1)]) ∧ Below w.heap.size w w' := by
  go_enter Tryd.func5, Tryd.ntmps5
  go_wp2_with fail
  refine (checkNil _ _).mono ?_
  rintro e w1 ⟨rfl, hb⟩
  go_wp2_with fail
  go_ret2
  exact ⟨rfl, hb⟩
set_option maxRecDepth 100000 in
theorem standsNil (i n : Int) (w : World) : Calls Tryd.prog 7 #[.pointer none, .int .i64 i, .int .i64 n] w fun e w' => e = .returned (.tuple #[.slice none 0 0, .iface 41 (.int .i64 1)]) ∧ Below w.heap.size w w' := by
  go_enter Tryd.func7, Tryd.ntmps7
  go_wp2_with fail
  refine (checkNil _ _).mono ?_
  rintro e w1 ⟨rfl, hb⟩
  go_wp2_with fail
  go_ret2
  exact ⟨rfl, hb⟩
set_option maxRecDepth 100000 in
theorem grewNil (m n : Int) (w : World) : Calls Tryd.prog 8 #[.pointer none, .int .i64 m, .int .i64 n] w fun e w' => e = .returned (.tuple #[.slice none 0 0, .iface 41 (.int .i64 1)]) ∧ Below w.heap.size w w' := by
  go_enter Tryd.func8, Tryd.ntmps8
  go_wp2_with fail
  refine (checkNil _ _).mono ?_
  rintro e w1 ⟨rfl, hb⟩
  go_wp2_with fail
  go_ret2
  exact ⟨rfl, hb⟩
set_option maxRecDepth 100000 in
theorem peaksNil (n : Int) (w : World) : Calls Tryd.prog 9 #[.pointer none, .int .i64 n] w fun e w' => e = .returned (.tuple #[.slice none 0 0, .iface 41 (.int .i64 1)]) ∧ Below w.heap.size w w' := by
  go_enter Tryd.func9, Tryd.ntmps9
  go_wp2_with fail
  refine (checkNil _ _).mono ?_
  rintro e w1 ⟨rfl, hb⟩
  go_wp2_with fail
  go_ret2
  exact ⟨rfl, hb⟩
theorem infoByte : (Tryd.prog.info? 5).map (fun i => (i.zero, i.size, i.bytes)) = some (some (.int .u8 0), 1, 1) := by kernel_rfl
/-- A digest as a value. -/
def dig (D : List UInt8) : Value := .agg (byteCells D).toArray
def zeros : List UInt8 := List.replicate 32 0

theorem items_same (D : List UInt8) (d : Nat) (w : World) : ∀ is : List Nat, (∀ i ∈ is, i < D.length) → (Op.eqItems (d + 1) 5 1 (byteCells D).toArray (byteCells D).toArray is).run Tryd.prog w = .ok true w := by
  intro is
  induction is with
  | nil => intro _; simp [Op.eqItems]
  | cons i is ih =>
    intro h
    have hi := h i List.mem_cons_self
    have hp : (Go.part 5 (byteCells D).toArray (i * 1)).run Tryd.prog w = .ok (.int .u8 D[i].toNat) w := by
      have hc : (byteCells D).toArray[i]? = some (.int .u8 D[i].toNat) := by simp [byteCells, List.getElem?_eq_getElem hi]
      simp [Go.part, isAgg, run_underlying Tryd.underlying5, hc]
    have he := run_equalIn_int (P := Tryd.prog) w d 5 .u8 .u8 D[i].toNat D[i].toNat Tryd.underlying5
    simp only [Op.eqItems, Sem.run_bind, hp, Result.andThen_ok, he, beq_self_eq_true, Bool.not_true, Bool.false_eq_true, if_false]
    exact ih fun j hj => h j (List.mem_cons_of_mem _ hj)

theorem dig_same (D : List UInt8) (hD : D.length = 32) (w : World) : (Op.equalIn 10000 31 (dig D) (dig D)).run Tryd.prog w = .ok true w := by
  obtain ⟨i0, hi, hz0, hz1, hz2⟩ := info_parts infoByte
  unfold dig
  rw [run_equalIn_array w 9999 _ _ (Tryd.underlying31) hi, show Tryd.prog.cellsOf 5 = 1 by kernel_rfl]
  exact items_same D 9998 w _ fun i hi => by have := List.mem_range.1 hi; omega

theorem dig_size (D : List UInt8) (hD : D.length = 32) : (Tryd.prog.info? 31).map (·.size) = some (byteCells D).toArray.size := by
  have : (byteCells D).toArray.size = 32 := by simp [byteCells_length, hD]
  exact (by kernel_rfl : (Tryd.prog.info? 31).map (·.size) = some 32).trans (by rw [this])

theorem dig_one (D : List UInt8) : (byteCells D).toArray.all (·.oneCell') = true := by
  rw [Array.all_eq_true_iff_forall_mem]
  intro x hx
  simp [byteCells] at hx
  obtain ⟨y, _, rfl⟩ := hx
  rfl

/-- What ToDigest hands back. -/
theorem results_dig {fn : Func} {p q : Tmp} (h : fn.results = #[.cell p 31, .tmp q]) (tmps : Array Value) (w : World) (g : Nat) (D : List UInt8) (hD : D.length = 32) (t : TypeId) (er : Value)
    (hp : tmps.getD p undef = .pointer (some ⟨g, 0, none⟩)) (hg : w.heap[g]? = some (.cells (byteCells D).toArray t (0, 0))) (hq : tmps.getD q undef = er) :
    (results fn tmps).run Tryd.prog w = .ok (.tuple #[dig D, er]) w := by
  have hp' : tmps[p]?.getD undef = .pointer (some ⟨g, 0, none⟩) := by simpa using hp
  have hq' : tmps[q]?.getD undef = er := by simpa using hq
  simp [results, h, hp', hq', asAddr, dig, run_loadVar_row w g t 31 _ (0, 0) _ hg Tryd.underlying31 rfl (dig_size D hD)]

set_option maxRecDepth 100000 in
theorem rootNil (n : Int) (w : World) : Calls Tryd.prog 6 #[.pointer none, .int .i64 n] w fun e w' => e = .returned (.tuple #[dig zeros, .iface 41 (.int .i64 1)]) ∧ Below w.heap.size w w' := by
  have g0 : Below w.heap.size w (w.alloc (.cells (byteCells zeros).toArray 31)) := by go_grown
  have h0 : (w.alloc (.cells (byteCells zeros).toArray 31)).heap[w.heap.size]? = some (.cells (byteCells zeros).toArray 31 (0, 0)) := (MapKept.heap_alloc w _).1
  have s0 : (w.alloc (.cells (byteCells zeros).toArray 31)).heap.size = w.heap.size + 1 := by simp
  have HC := Lib.hid (fun w => checkNil n w)
  go_enter Tryd.func6, Tryd.ntmps6
  go_wp2_with fail
  refine (HC.out _).mono ?_
  rintro e w1 ⟨rfl, hb0⟩
  have hw1 : w1.heap[w.heap.size]? = some (.cells (byteCells zeros).toArray 31 (0, 0)) := by
    rw [hb0.block w.heap.size (by simp)]
    exact h0
  have g1 : Below w.heap.size w w1 := g0.trans (hb0.mono g0.size)
  have hv2 : (w1.setRow w.heap.size (byteCells zeros).toArray).heap[w.heap.size]? = some (.cells (byteCells zeros).toArray 31 (0, 0)) := setRow_heap w1 _ _ _ _ _ hw1
  have gv : Below w.heap.size w (w1.setRow w.heap.size (byteCells zeros).toArray) := g1.trans ⟨rfl, rfl, rfl, by simp, fun k hk => setRow_other w1 _ k _ (by omega)⟩
  clear g0 h0 s0 hb0
  go_wp2_with (refine wpList_store_row rfl 31 (.tmp 4) (.tmp 12) rfl w.heap.size (byteCells zeros).toArray rfl rfl 31 _ hw1 (dig_size zeros rfl) rfl (dig_one zeros) ?_)
  exact bodyPost_ret (results_dig rfl _ _ w.heap.size zeros rfl _ _ rfl hv2 rfl) rfl ⟨rfl, gv⟩
end Go.Proofs.YtmjnaedpncmgbaaDoor
