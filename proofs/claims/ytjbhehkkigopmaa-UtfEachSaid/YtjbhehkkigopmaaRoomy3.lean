/- Rows of bytes with room behind them, in which marks stand (affidavitlaw03): roomy, left. -/
import Derived.Test.YtjbhehkkigopmaaRowB
import Derived.Deep.QuietTactic
import Derived.BigQuiet
import Derived.LoopTactic
import Derived.Laws.CopyOwn
import Derived.Laws.MakeOwn
import Derived.Laws.OwnMore
namespace Go.Proofs.Ytjbhehkkigopmaa
open Go.RowKit Go.Lib

/-- What stands in a roomy row. -/
def Roomy (g : Nat) (l : List UInt8) (w : World) : Prop := w.heap[g]? = some (.cells (byteCells l ++ [Value.int .u8 7, Value.int .u8 8, Value.int .u8 9]).toArray 5 (0, 0))

theorem set_marks (A : List Value) (n : Nat) (hA : A.length = n) (x y z u v t : Value) : ((((A ++ [x, y, z]).toArray.setIfInBounds n u).setIfInBounds (n + 1) v).setIfInBounds (n + 2) t) = (A ++ [u, v, t]).toArray := by
  subst hA
  simp [List.setIfInBounds_toArray, List.set_append_right]

theorem roomy_bytes {g K b : Nat} {l : List UInt8} {w : World} (h : Roomy g l w) (hb : g < b) (hK : g ≠ K) : Bytes b K (some ⟨g, 0, none⟩) l w := fun _ =>
  ⟨g, 0, rfl, hb, hK, fun j hj => by
    unfold Roomy at h
    rw [cell_of_heap h]
    have hj' : j < (byteCells l).length := by rw [byteCells_length]; exact hj
    rw [Nat.zero_add, List.getElem?_toArray, List.getElem?_append_left hj']
    simp [byteCells, List.getElem?_eq_getElem hj]⟩

set_option maxRecDepth 100000 in
set_option maxHeartbeats 2000000 in
theorem roomy_any (p : Option Addr) (cap : Nat) (l : List UInt8) (w : World) (hB : Bytes w.heap.size w.heap.size p l w) (hlen : l.length ≤ 140737488351232) :
    Calls Try.prog 16 #[.slice p l.length cap] w fun e w' => e = .returned (.slice (some ⟨w.heap.size, 0, none⟩) l.length (l.length + 3)) ∧ Roomy w.heap.size l w' ∧ Below w.heap.size w w' := by
  obtain ⟨i0, hi, hz0, hz1, hz2⟩ := info_parts infoByte
  obtain ⟨n, hn⟩ : ∃ n, l.length = n := ⟨_, rfl⟩
  have HN := Lib.hid hn
  have hsz : (Try.prog.info? 5).map (·.size) = some 1 := by kernel_rfl
  have HB := Lib.hid hB
  rw [hn] at hlen ⊢
  have hmk : ∀ w : World, (Instr.makeSlice 22 (.int .i64 (n : Int)) (.int .i64 ((n : Int) + 3))).run Try.prog w = .ok (.slice (some ⟨w.heap.size, 0, none⟩) n (n + 3)) (w.alloc (.cells (madeCells #[.int .u8 0] (n + 3)) 5)) := fun w => by
    have h := run_make (P := Try.prog) w 22 5 i0 (.int .u8 0) Try.underlying22 hi hz0 .i64 .i64 (n : Int) ((n : Int) + 3) (by omega) (by omega) (by rw [hz2]; omega) (by omega)
    rw [hz1, Nat.mul_one, show ((n : Int) + 3).toNat = n + 3 by omega, Int.toNat_natCast] at h
    exact h
  clear hn hB
  go_enter Try.func16, Try.ntmps16
  go_wp2_with (refine wpList_copy_splice rfl (.tmp 11) (.tmp 12) 22 22 rfl 5 Try.underlying22 hsz _ _ _ _ _ _ rfl rfl w.heap.size 0 (List.replicate (n + 3) (.int .u8 0)) 5 ?kg (byteCells l) ?kn ?kp ?kf ?ko w.heap.size w ?kb (Nat.le_refl _) ?_)
  case kg =>
    have h := (MapKept.heap_alloc w (.cells (madeCells #[.int .u8 0] (n + 3)) 5)).1
    rw [h]
    congr 2
    apply Array.ext'
    rw [toList_madeCells_one]
  case kn => rw [byteCells_length, HN.out]; simp
  case kp =>
    intro h0
    rw [byteCells_length] at h0
    obtain ⟨pb, off, hp, h1, h2, hc⟩ := HB.out (by intro e; rw [e] at h0; simp at h0)
    refine ⟨_, hp, fun j v hj => ?_⟩
    have hj' : j < l.length := by
      have := (List.getElem?_eq_some_iff.1 hj).1
      rwa [byteCells_length] at this
    rw [Addr.add_lit, World.cell?_of_block (w := w) (Below.heap_alloc w _ pb h1), hc j hj']
    simp [byteCells, List.getElem?_eq_getElem hj'] at hj
    rw [hj]
  case kf => rw [byteCells_length, HN.out]; simp
  case ko =>
    intro v hv
    simp only [byteCells, List.mem_map] at hv
    obtain ⟨b, _, rfl⟩ := hv
    rfl
  case kb => exact (Below.refl _ w).alloc (Nat.le_refl _) _
  intro w2 hh hb2
  have hh2 : w2.heap[w.heap.size]? = some (.cells (byteCells l ++ [Value.int .u8 0, Value.int .u8 0, Value.int .u8 0]).toArray 5 (0, 0)) := by
    rw [hh.out]
    congr 3
    unfold splice
    rw [List.take_zero, List.nil_append, byteCells_length, HN.out, Nat.zero_add, List.drop_replicate]
    simp
  have hl2 : (byteCells l).length = n := by rw [byteCells_length, HN.out]
  have c1 : w2.cell? ⟨w.heap.size, n, none⟩ = some (.int .u8 0) := by rw [cell_of_heap hh2]; simp [← hl2]
  have c2 : w2.cell? ⟨w.heap.size, n + 1, none⟩ = some (.int .u8 0) := by rw [cell_of_heap hh2]; simp [← hl2]
  have c3 : w2.cell? ⟨w.heap.size, n + 2, none⟩ = some (.int .u8 0) := by rw [cell_of_heap hh2]; simp [← hl2]
  have f3 : w2.frozen? ⟨w.heap.size, n + 2, none⟩ = false := frozen_of_heap hh2 (n + 2)
  have f1 : w2.frozen? ⟨w.heap.size, n, none⟩ = false := frozen_of_heap hh2 n
  have f2 : w2.frozen? ⟨w.heap.size, n + 1, none⟩ = false := frozen_of_heap hh2 (n + 1)
  have HH := Lib.hid hh2
  clear hh hh2
  go_wp2_with fail
  go_ret
  refine ⟨rfl, ?_, ((hb2.setCell (p := ⟨w.heap.size, n, none⟩) (Nat.le_refl _) _).setCell (p := ⟨w.heap.size, n + 1, none⟩) (Nat.le_refl _) _).setCell (p := ⟨w.heap.size, n + 2, none⟩) (Nat.le_refl _) _⟩
  have h := row_set (i := n + 2) (row_set (i := n + 1) (row_set (i := n) HH.out (.int .u8 7)) (.int .u8 8)) (.int .u8 9)
  rw [set_marks _ n hl2] at h
  exact h

/-- A world from which no more than draws were taken. -/
def Drawn (w w' : World) : Prop := ∃ n, w' = w.drewN n
theorem Drawn.one {w : World} (a : Nat) : Drawn w (w.drewN a) := ⟨a, rfl⟩
theorem Drawn.below {B : Nat} {w w' : World} (h : Drawn w w') : Below B w w' := by
  obtain ⟨n, rfl⟩ := h
  exact below_drewN n (Below.refl _ _)

set_option maxRecDepth 100000 in
set_option maxHeartbeats 4000000 in
theorem left_yes (g : Nat) (p : Option Addr) (cap : Nat) (l : List UInt8) (w : World) (b K : Nat) (hB : Bytes b K p l w) (hR : Roomy g l w) (hlen : l.length ≤ 140737488351232) :
    Calls Try.prog 19 #[.slice (some ⟨g, 0, none⟩) l.length (l.length + 3), .slice p l.length cap] w fun e w' => e = .returned (.bool true) ∧ Drawn w w' := by
  have hl2 : (byteCells l).length = l.length := byteCells_length l
  have HA := Lib.hid (roomy_bytes (K := g + 1) hR (Nat.lt_succ_self g) (by omega))
  have HB := Lib.hid hB
  unfold Roomy at hR
  have c1 : w.cell? ⟨g, l.length, none⟩ = some (.int .u8 7) := by rw [cell_of_heap hR]; simp [← hl2]
  have c2 : w.cell? ⟨g, l.length + 1, none⟩ = some (.int .u8 8) := by rw [cell_of_heap hR]; simp [← hl2]
  have c3 : w.cell? ⟨g, l.length + 2, none⟩ = some (.int .u8 9) := by rw [cell_of_heap hR]; simp [← hl2]
  obtain ⟨m, hm⟩ : ∃ m, l.length = m := ⟨_, rfl⟩
  have HM := Lib.hid hm
  rw [hm] at c1 c2 c3 hlen ⊢
  clear hR hB hl2 hm
  go_enter Try.func19, Try.ntmps19
  go_wp2_with fail
  go_loopw [5] (fun v wr => ∃ k : Nat, k ≤ m ∧ v = .int .i64 k ∧ Drawn w wr) (fun v _ => m - (intOf v).toNat)
  case atStart => exact ⟨0, Nat.zero_le _, rfl, Drawn.one 0⟩
  case round =>
    obtain ⟨k, hk, rfl, n, rfl⟩ := hrel
    by_cases hlt : k < m
    · have hkl : k < l.length := by rw [HM.out]; exact hlt
      have hne : l ≠ [] := by intro e; rw [e] at hkl; simp at hkl
      obtain ⟨pa, oa, ea, _, _, ga0⟩ := HA.out hne
      obtain ⟨pb, ob, eb, _, _, gb0⟩ := HB.out hne
      have ga := ga0 k hkl
      have gb := gb0 k hkl
      clear ga0 gb0
      simp only [Option.some.injEq, Addr.mk.injEq] at ea
      obtain ⟨rfl, rfl, _⟩ := ea
      rw [Nat.zero_add] at ga
      subst eb
      obtain ⟨x, hxe⟩ : ∃ x, l[k] = x := ⟨_, rfl⟩
      rw [hxe] at ga gb
      clear hxe
      have hx := x.toNat_lt
      have hxx : (((x.toNat : Nat) : Int) != ((x.toNat : Nat) : Int)) = false := by simp
      clear c1 c2 c3
      go_wp2_with fail
      go_quiet (fail)
      go_wp2_with fail
      go_roundw
      case rel => exact ⟨k + 1, by omega, by go_num, Drawn.one _⟩
      case measure => simp [intOf]; omega
    · obtain rfl : k = m := by omega
      go_wp2_with fail
      go_returns
      exact ⟨rfl, Drawn.one _⟩
end Go.Proofs.Ytjbhehkkigopmaa
