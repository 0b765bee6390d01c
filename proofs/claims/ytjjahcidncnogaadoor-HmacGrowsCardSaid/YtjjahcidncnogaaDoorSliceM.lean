/- Parts of rows of bytes: b[i:j]. -/
import Derived.Test.YtjjahcidncnogaaDoorSliceB
namespace Go.Proofs.YtjjahcidncnogaaDoor
open Go.RowKit Go.Lib

/-- b[i:j]. -/
theorem slice_mid (a : Option Addr) (n cap i j : Nat) (hij : i ≤ j) (hj : j ≤ n) (hc : n ≤ cap) :
    ∃ q, (∀ w, (Instr.sliceAt 28 (.slice a n cap) (some (.int .i64 (i : Int))) (some (.int .i64 (j : Int))) none).run Tryd.prog w = .ok (.slice q (j - i) (cap - i)) w) ∧
      ∀ (l : List UInt8) (w : World) (b K : Nat), l.length = n → Bytes b K a l w → Bytes b K q ((l.drop i).take (j - i)) w := by
  refine ⟨if cap = i then a else a.map (·.add (i * 1)), fun w => ?_, fun l w b K hl hB hne => ?_⟩
  · rw [run_sliceAt_slice w 28 _ _ _ _ sliceElem, run_slice_lh w 28 a n cap sliceElem .i64 .i64 (i : Int) (j : Int) (by omega) (by omega) (by omega), sliceSize]
    simp only [Result.andThen, sliced, Int.toNat_natCast]
  · have hk : i < j := by
      rcases Nat.lt_or_ge i j with h | h
      · exact h
      · rw [show j - i = 0 by omega, List.take_zero] at hne; exact absurd rfl hne
    obtain ⟨pb, off, rfl, h1, h2, h3⟩ := hB (by intro e; rw [e] at hl; simp at hl; omega)
    refine ⟨pb, off + i, ?_, h1, h2, fun k hk2 => ?_⟩
    · rw [if_neg (by omega)]
      simp [Addr.add]
    · rw [List.length_take, List.length_drop] at hk2
      have h := h3 (i + k) (by omega)
      rw [← Nat.add_assoc] at h
      rw [h]
      congr 2
      rw [List.getElem_take, List.getElem_drop]
end Go.Proofs.YtjjahcidncnogaaDoor
