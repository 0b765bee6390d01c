/- What stands behind a row: plain, and the contract of sha's padding. -/
import Derived.Test.YtjjahcidncnogaaDoorShaHash
namespace Go.Proofs.YtjjahcidncnogaaDoor
open Go.ChangeShapes Go.WideShapes Go.ChangeAt Go.RowKit Go.Lib

/-- A byte of the number of bits. -/
def byteN (n k : Nat) : UInt8 := UInt8.ofNat (8 * n % 18446744073709551616 / 2 ^ (8 * k))
/-- The last k bytes of it. -/
def beT (n : Nat) : Nat → List UInt8
  | 0 => []
  | k + 1 => byteN n k :: beT n k
/-- How many noughts. -/
def noughts (n : Nat) : Nat := (119 - n % 64) % 64
def padK (n k : Nat) : List UInt8 := 128 :: (List.replicate (noughts n + 8 - k) 0 ++ beT n k)
/-- What stands behind n bytes. -/
def padL (n : Nat) : List UInt8 := padK n 8
theorem beT_length (n : Nat) : ∀ k, (beT n k).length = k
  | 0 => rfl
  | k + 1 => by unfold beT; rw [List.length_cons, beT_length n k]
theorem padK_length (n k : Nat) (hk : k ≤ 8) : (padK n k).length = noughts n + 9 := by
  unfold padK; simp [beT_length]; omega
theorem set_last (m : Nat) (x : UInt8) (t : List UInt8) : (List.replicate (m + 1) (0 : UInt8) ++ t).set m x = List.replicate m 0 ++ x :: t := by
  induction m with
  | zero => rfl
  | succ m ih =>
    rw [List.replicate_succ, List.cons_append, List.set_cons_succ, ih]
    rfl
theorem padK_step (n k : Nat) (hk : k < 8) : (padK n k).set (noughts n + 8 - k) (byteN n k) = padK n (k + 1) := by
  unfold padK
  obtain ⟨m, hm⟩ : ∃ m, noughts n + 8 - k = m + 1 := ⟨noughts n + 7 - k, by omega⟩
  rw [hm, List.set_cons_succ, set_last, show noughts n + 8 - (k + 1) = m from by omega]
  rfl
theorem padK_zero (n : Nat) : padK n 0 = 128 :: List.replicate (noughts n + 8) 0 := by unfold padK beT; simp

set_option maxRecDepth 100000 in
set_option maxHeartbeats 4000000 in
theorem padding_any (n : Nat) (hn : n < 18446744073709551616) (w : World) :
    Calls Tryd.prog 92 #[.int .u64 (n : Int)] w fun e w' => e = .returned (.slice (some ⟨w.heap.size, 0, none⟩) (padL n).length (padL n).length) ∧ Whole w.heap.size (padL n) w' ∧ Below w.heap.size w w' := by
  obtain ⟨i0, hi, hz0, hz1, hz2⟩ := info_parts infoByte
  have hlen : (padL n).length = noughts n + 9 := padK_length n 8 (by decide)
  have HL := Lib.hid hlen
  obtain ⟨r, hr⟩ : ∃ r, n % 64 = r := ⟨_, rfl⟩
  obtain ⟨z, hz⟩ : ∃ z, noughts n = z := ⟨_, rfl⟩
  have hz' : (119 - r) % 64 = z := by rw [← hz, ← hr]; rfl
  have hr64 : r < 64 := by omega
  have hz64 : z < 64 := by omega
  have e1 : (n : Int) % 64 = (r : Int) := by omega
  have e2 : IntKind.u64.wrap (119 - (r : Int)) = 119 - (r : Int) := by show (119 - (r : Int)) % 18446744073709551616 = _; omega
  have e3 : (119 - (r : Int)) % 64 = (z : Int) := by omega
  have e4 : IntKind.u64.wrap ((z : Int) + 9) = (z : Int) + 9 := by show ((z : Int) + 9) % 18446744073709551616 = _; omega
  have hmk : ∀ w : World, (Instr.makeSlice 28 (.int .u64 ((z : Int) + 9)) (.int .u64 ((z : Int) + 9))).run Tryd.prog w = .ok (.slice (some ⟨w.heap.size, 0, none⟩) (z + 9) (z + 9)) (w.alloc (.cells (madeCells #[.int .u8 0] (z + 9)) 5)) := fun w => by
    have h := run_make (P := Tryd.prog) w 28 5 i0 (.int .u8 0) Tryd.underlying28 hi hz0 .u64 .u64 ((z : Int) + 9) ((z : Int) + 9) (by omega) (by omega) (by rw [hz2]; omega) (by omega)
    rw [hz1, Nat.mul_one, show ((z : Int) + 9).toNat = z + 9 by omega] at h
    exact h
  have hmc : (madeCells #[Value.int .u8 0] (z + 9))[0]? = some (.int .u8 0) := by
    rw [← Array.getElem?_toList, toList_madeCells_one]
    simp
  have HZ := Lib.hid hz
  have HR := Lib.hid hr
  rw [hlen, hz]
  clear hz hr hlen hz'
  go_enter Tryd.func92, Tryd.ntmps92
  go_wp2_with fail
  have HStart : Hid (∃ k : Nat, Value.int .i64 0 = .int .i64 k ∧ k ≤ 8 ∧ Hid (Whole w.heap.size (padK n k) (w.alloc (.cells ((madeCells #[.int .u8 0] (z + 9)).setIfInBounds 0 (.int .u8 128)) 5))) ∧ Hid (Below w.heap.size w (w.alloc (.cells ((madeCells #[.int .u8 0] (z + 9)).setIfInBounds 0 (.int .u8 128)) 5)))) := Lib.hid (by
    refine ⟨0, rfl, by decide, Lib.hid ?_, Lib.hid ((Below.refl _ w).alloc (Nat.le_refl _) _)⟩
    unfold Whole
    rw [(MapKept.heap_alloc _ _).1, padK_zero, HZ.out]
    congr 2
    apply Array.ext'
    rw [Array.toList_setIfInBounds, toList_madeCells_one]
    simp [byteCells, List.replicate_succ])
  go_loopw [15] (fun v wr => ∃ k : Nat, v = .int .i64 k ∧ k ≤ 8 ∧ Hid (Whole w.heap.size (padK n k) wr) ∧ Hid (Below w.heap.size w wr)) (fun v _ => 8 - (RowKit.intOf v).toNat)
  case atStart => exact HStart.out
  case round =>
    clear HStart
    obtain ⟨k, rfl, hk, hw, hb⟩ := hrel
    by_cases hlt : k < 8
    · have hd : decide ((k : Int) < 8) = true := decide_eq_true (by omega)
      have x1 : (z : Int) + 9 - 1 - (k : Int) = ((z + 8 - k : Nat) : Int) := by omega
      have x2 : IntKind.u64.wrap (8 * (n : Int)) = ((8 * n % 18446744073709551616 : Nat) : Int) := by show (8 * (n : Int)) % 18446744073709551616 = _; omega
      have x3 : z + 8 - k < z + 9 := by omega
      have hz8 : z + 8 - k < (padK n k).length := by rw [padK_length n k hk, HZ.out]; omega
      have c1 : wr.cell? ⟨w.heap.size, z + 8 - k, none⟩ = some (.int .u8 (padK n k)[z + 8 - k].toNat) := by
        have h := hw.out
        unfold Whole at h
        rw [cell_of_heap h]
        simp [byteCells, List.getElem?_eq_getElem hz8]
      have f1 : wr.frozen? ⟨w.heap.size, z + 8 - k, none⟩ = false := frozen_of_heap hw.out _
      generalize (padK n k)[z + 8 - k].toNat = y at c1
      obtain ⟨m, hm⟩ : ∃ m, 8 * n % 18446744073709551616 = m := ⟨_, rfl⟩
      rw [hm] at x2
      have HV : Hid (((m : Int) / 2 ^ (8 * k) % 256 : Int) = (((byteN n k).toNat : Nat) : Int)) := Lib.hid (by
        unfold byteN
        rw [hm, UInt8.toNat_ofNat', Int.natCast_emod, Int.natCast_ediv, Int.natCast_pow]
        rfl)
      clear hm
      go_wp2_with fail
      go_roundw
      case rel =>
        rw [HV.out]
        refine ⟨k + 1, by go_num, hlt, Lib.hid ?_, Lib.hid (hb.out.setCell (Nat.le_refl _) _)⟩
        rw [← padK_step n k hlt, HZ.out]
        exact whole_set hw.out _ _
      case measure => simp [RowKit.intOf]; omega
    · obtain rfl : k = 8 := by omega
      have HW := hw
      clear hlt hk hmc hmk e1 e2 e3 e4
      rw [show ((8 : Nat) : Int) = 8 from rfl]
      go_wp2_with fail
      go_ret
      exact ⟨rfl, HW.out, hb.out⟩
end Go.Proofs.YtjjahcidncnogaaDoor
