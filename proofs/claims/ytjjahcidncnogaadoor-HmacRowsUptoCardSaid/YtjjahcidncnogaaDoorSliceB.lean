/- Parts of rows of bytes: b[k:], b[:k], b[i:j], whatever the row. -/
import Derived.Test.YtjjahcidncnogaaDoorRowB
namespace Go.Proofs.YtjjahcidncnogaaDoor
open Go.RowKit Go.Lib

theorem sliceElem : Tryd.prog.underlying 28 = some (.slice (Tryd.prog.elem 28)) := by kernel_rfl
theorem sliceSize (w : World) : (sizeOf (Tryd.prog.elem 28)).run Tryd.prog w = .ok 1 w := by kernel_rfl

/-- b[k:]. -/
theorem slice_from (a : Option Addr) (n cap k : Nat) (hk : k ≤ n) (hc : n ≤ cap) :
    ∃ q, (∀ w, (Instr.sliceAt 28 (.slice a n cap) (some (.int .i64 (k : Int))) none none).run Tryd.prog w = .ok (.slice q (n - k) (cap - k)) w) ∧
      ∀ (l : List UInt8) (w : World) (b K : Nat), l.length = n → Bytes b K a l w → Bytes b K q (l.drop k) w := by
  refine ⟨if cap = k then a else a.map (·.add (k * 1)), fun w => ?_, fun l w b K hl hB hne => ?_⟩
  · rw [run_sliceAt_slice w 28 _ _ _ _ sliceElem, run_slice_l w 28 a n cap sliceElem .i64 (k : Int) (by omega) (by omega), sliceSize]
    simp only [Result.andThen, sliced, Int.toNat_natCast]
  · have hkl : k < l.length := by
      rcases Nat.lt_or_ge k l.length with h | h
      · exact h
      · exact absurd (List.drop_of_length_le h) hne
    obtain ⟨pb, off, rfl, h1, h2, h3⟩ := hB (by intro e; rw [e] at hkl; simp at hkl)
    refine ⟨pb, off + k, ?_, h1, h2, fun j hj => ?_⟩
    · rw [if_neg (by omega)]
      simp [Addr.add]
    · have hj2 : k + j < l.length := by rw [List.length_drop] at hj; omega
      have h := h3 (k + j) hj2
      rw [← Nat.add_assoc] at h
      rw [h]
      congr 2
      rw [List.getElem_drop]
/-- b[:k]. -/
theorem slice_to (a : Option Addr) (n cap k : Nat) (hk : k ≤ cap) :
    ∃ q, (∀ w, (Instr.sliceAt 28 (.slice a n cap) none (some (.int .i64 (k : Int))) none).run Tryd.prog w = .ok (.slice q k cap) w) ∧
      ∀ (l : List UInt8) (w : World) (b K : Nat), l.length = n → k ≤ n → Bytes b K a l w → Bytes b K q (l.take k) w := by
  refine ⟨if cap = 0 then a else a.map (·.add (0 * 1)), fun w => ?_, fun l w b K hl hkn hB hne => ?_⟩
  · rw [run_sliceAt_slice w 28 _ _ _ _ sliceElem, run_slice_h w 28 a n cap sliceElem .i64 (k : Int) (by omega) (by omega), sliceSize]
    simp only [Result.andThen, sliced, Int.toNat_natCast, Nat.sub_zero]
  · have hl0 : 0 < (l.take k).length := by
      rcases Nat.eq_zero_or_pos (l.take k).length with h | h
      · exact absurd (List.length_eq_zero_iff.1 h) hne
      · exact h
    have hk0 : 0 < k := by rw [List.length_take] at hl0; omega
    obtain ⟨pb, off, rfl, h1, h2, h3⟩ := hB (by intro e; rw [e] at hl0; simp at hl0)
    refine ⟨pb, off, ?_, h1, h2, fun j hj => ?_⟩
    · rw [if_neg (by omega)]
      simp [Addr.add]
    · rw [List.length_take] at hj
      rw [h3 j (by omega)]
      congr 2
      rw [List.getElem_take]
/-- b[i:i+1]. -/
theorem slice_one (a : Option Addr) (n cap i : Nat) (hi : i < n) (hc : n ≤ cap) :
    ∃ q, (∀ w, (Instr.sliceAt 28 (.slice a n cap) (some (.int .i64 (i : Int))) (some (.int .i64 ((i : Int) + 1))) none).run Tryd.prog w = .ok (.slice q 1 (cap - i)) w) ∧
      ∀ (l : List UInt8) (w : World) (b K : Nat) (hl : i < l.length), Bytes b K a l w → Bytes b K q [l[i]] w := by
  refine ⟨if cap = i then a else a.map (·.add (i * 1)), fun w => ?_, fun l w b K hl hB hne => ?_⟩
  · rw [run_sliceAt_slice w 28 _ _ _ _ sliceElem, run_slice_lh w 28 a n cap sliceElem .i64 .i64 (i : Int) ((i : Int) + 1) (by omega) (by omega) (by omega), sliceSize]
    simp only [Result.andThen, sliced, Int.toNat_natCast, show ((i : Int) + 1).toNat = i + 1 by omega, Nat.add_sub_cancel_left]
  · obtain ⟨pb, off, rfl, h1, h2, h3⟩ := hB (by intro e; rw [e] at hl; simp at hl)
    refine ⟨pb, off + i, ?_, h1, h2, fun j hj => ?_⟩
    · rw [if_neg (by omega)]
      simp [Addr.add]
    · have hj0 : j = 0 := by simpa using hj
      subst hj0
      exact h3 i hl
end Go.Proofs.YtjjahcidncnogaaDoor
