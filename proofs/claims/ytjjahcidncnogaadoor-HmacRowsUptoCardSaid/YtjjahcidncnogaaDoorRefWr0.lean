/- The reference's Write: what a byte more does to the whole blocks of a row and to what is left behind them. -/
import Derived.Test.YtjjahcidncnogaaDoorRefPad
import Derived.Test.YtjjahcidncnogaaDoorShaTake
namespace Go.Proofs.YtjjahcidncnogaaDoor
open Go.RowKit Go.Lib

/-- What is left of a row behind its whole blocks. -/
def restL (l : List UInt8) : List UInt8 := l.drop (64 * (l.length / 64))
theorem restL_length (l : List UInt8) : (restL l).length = l.length % 64 := by unfold restL; rw [List.length_drop]; omega
theorem restL_step (l : List UInt8) (x : UInt8) (h : l.length % 64 < 63) : restL (l ++ [x]) = restL l ++ [x] := by
  unfold restL
  have e : (l ++ [x]).length / 64 = l.length / 64 := by rw [List.length_append, List.length_singleton]; omega
  rw [e, List.drop_append_of_le_length (by omega)]
theorem restL_full (l : List UInt8) (x : UInt8) (h : l.length % 64 = 63) : restL (l ++ [x]) = [] := by
  apply List.eq_nil_of_length_eq_zero
  rw [restL_length, List.length_append, List.length_singleton]
  omega
theorem blocks_step (st : List Int) (l : List UInt8) (x : UInt8) (h : l.length % 64 < 63) : blocksI ((l ++ [x]).length / 64) st (l ++ [x]) = blocksI (l.length / 64) st l := by
  have e : (l ++ [x]).length / 64 = l.length / 64 := by rw [List.length_append, List.length_singleton]; omega
  rw [e, blocksI_app _ _ _ _ (by omega)]
theorem blocks_full (st : List Int) (l : List UInt8) (x : UInt8) (h : l.length % 64 = 63) : blocksI ((l ++ [x]).length / 64) st (l ++ [x]) = roundI (blocksI (l.length / 64) st l) (bI (restL l ++ [x])) := by
  have e : (l ++ [x]).length / 64 = l.length / 64 + 1 := by rw [List.length_append, List.length_singleton]; omega
  have hr : (restL l).length = 63 := by rw [restL_length, h]
  rw [e, blocksI_snoc, blocksI_app _ _ _ _ (by omega), List.drop_append_of_le_length (by omega)]
  have : (List.drop (64 * (l.length / 64)) l ++ [x]).take 64 = restL l ++ [x] := by
    apply List.take_of_length_le
    rw [List.length_append, List.length_singleton]
    show (restL l).length + 1 ≤ 64
    omega
  rw [this]
end Go.Proofs.YtjjahcidncnogaaDoor
