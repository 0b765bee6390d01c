/- Feeders that are new, and that stay while other blocks are written. -/
import Derived.Test.YtjbhehkkigopmaaUtfStands
import Derived.Test.YtjbhehkkigopmaaSliceB
import Derived.ChangeMaps5
namespace Go.Proofs.Ytjbhehkkigopmaa
open Go.ChangeMaps Go.ChangeShapes Go.WideShapes Go.ChangeAt Go.RowKit Go.Lib Go.Joins

theorem ownsRow_below {w w' : World} {base e size n B : Nat} {v : Value} {xs : List Value} (h : w.ownsRow base e size v n xs) (hb : Below B w w') (hB : w.heap.size ≤ B) : w'.ownsRow base e size v n xs :=
  h.kept (row := none) ⟨hb.os, hb.tape, hb.output, hb.size, fun k hk _ => hb.block k (by omega)⟩ (by cases v.ownBlock <;> simp)
theorem feederAt_new {F : Nat} {w : World} (h : FeedBlk F 0 0 0 0 0 false w) : FeederAt F [] w := ⟨0, 0, 0, 0, 0, false, h, .inr ⟨rfl, rfl, [], cur0, rfl, rfl, tail_nil _ _ _⟩⟩
theorem FeederAt.but {F b K : Nat} {came : List UInt8} {w w' : World} (h : FeederAt F came w) (k : But b K w w') (hb : F < b) (hK : F ≠ K) : FeederAt F came w' := by
  obtain ⟨f0, f1, f2, held, taken, wrong, hblk, hst⟩ := h
  exact ⟨f0, f1, f2, held, taken, wrong, (k.block F hb hK).trans hblk, hst⟩
theorem FeederAt.below {F B : Nat} {came : List UInt8} {w w' : World} (h : FeederAt F came w) (k : Below B w w') (hb : F < B) : FeederAt F came w' := by
  obtain ⟨f0, f1, f2, held, taken, wrong, hblk, hst⟩ := h
  exact ⟨f0, f1, f2, held, taken, wrong, (k.block F hb).trans hblk, hst⟩
theorem FeederAt.lt {F : Nat} {came : List UInt8} {w : World} (h : FeederAt F came w) : F < w.heap.size := by
  obtain ⟨f0, f1, f2, held, taken, wrong, hblk, hst⟩ := h
  exact hblk.lt

end Go.Proofs.Ytjbhehkkigopmaa
