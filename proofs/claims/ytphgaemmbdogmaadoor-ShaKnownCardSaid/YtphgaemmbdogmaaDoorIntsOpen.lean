/- A slice of ints that came in. -/
import Derived.Test.YtphgaemmbdogmaaDoorRowB
import Derived.ChangeSlices
namespace Go.Proofs.YtphgaemmbdogmaaDoor
open Go.ChangeShapes Go.WideShapes Go.ChangeAt Go.RowKit Go.Lib

theorem cellsInt : Tryd.prog.cellsOf 3 = 1 := by kernel_rfl
/-- A row of ints. -/
structure Ints (b : Nat) (p : Option Addr) (l : List Int) (w : World) : Prop where
  le : l.length ≤ maxLen
  wf : ∀ x ∈ l, -9223372036854775808 ≤ x ∧ x ≤ 9223372036854775807
  cell : l ≠ [] → ∃ pb off, p = some ⟨pb, off, none⟩ ∧ pb < b ∧ ∀ j, (h : j < l.length) → w.cell? ⟨pb, off + j, none⟩ = some (.int .i64 l[j])
theorem Ints.keep {b : Nat} {p : Option Addr} {l : List Int} {w w' : World} (h : Ints b p l w) (hb : Below b w w') : Ints b p l w' :=
  ⟨h.le, h.wf, fun hn => let ⟨pb, off, hp, h1, h2⟩ := h.cell hn; ⟨pb, off, hp, h1, fun j hj => (hb.cell (p := ⟨pb, off + j, none⟩) h1).trans (h2 j hj)⟩⟩

set_option maxRecDepth 100000 in
/-- A slice of ints that came in. -/
theorem ints_open {H : Type} {enc : TypeId × Value → H} {W : World} {base b0 : Nat} {sp : Nat → Bool} {held : Bool} {v : Value} {d : DataW H} {p : List MemPlace}
    (hv : Value.okWide Tryd.prog W .any b0 70 v) (h : DataW.Trod enc Tryd.prog W base sp held 70 v d p) :
    ∃ (q : Option Addr) (cap : Nat) (l : List Int), v = .slice q l.length cap ∧ Ints W.heap.size q l W := by
  obtain ⟨a1, len, cap, rfl⟩ := okWide_slice Tryd.underlying70 hv
  obtain ⟨fuel, hf⟩ := h
  rcases open_ints Tryd.underlying70 Tryd.underlying3 cellsInt hf with ⟨hcs, hx⟩ | ⟨a, len', cap', zs, hcs, _, hl, hm, hz, hx, hcell, hwz⟩
  · simp [Value.cells] at hcs
    obtain ⟨rfl, rfl, rfl⟩ := hcs
    exact ⟨none, 0, [], rfl, Nat.zero_le _, fun _ h => (by cases h), fun h => absurd rfl h⟩
  · simp [Value.cells] at hcs
    obtain ⟨rfl, rfl, rfl⟩ := hcs
    have hle : len ≤ zs.length := by rw [hz]; split <;> omega
    have hlen : (zs.take len).length = len := by simp; omega
    refine ⟨some a, cap, zs.take len, by rw [hlen], by rw [hlen]; omega, fun x hx => ?_, fun hne => ?_⟩
    · have hb := hwz x (List.mem_of_mem_take hx)
      simp [Lit.wf, IntKind.min, IntKind.max, IntKind.signed, IntKind.bits] at hb
      omega
    · have h0 : 0 < len := by
        rcases Nat.eq_zero_or_pos len with h | h
        · subst h; simp at hne
        · exact h
      obtain ⟨ab, ao, spot⟩ := a
      have hspot : spot = none := by simpa [Addr.add] using World.cell?_spot (hcell 0 (by omega))
      subst hspot
      have hblk : ab < W.heap.size := by
        have hc := hcell 0 (by omega)
        rw [Addr.add_lit] at hc
        exact World.block_lt_of_cell? _ _ hc
      refine ⟨ab, ao, rfl, hblk, fun j hj => ?_⟩
      rw [hlen] at hj
      have hc := hcell j (by omega)
      rw [Addr.add_lit] at hc
      rw [hc]
      simp only [List.getElem_take]
      simp [List.getD, List.getElem?_eq_getElem (show j < zs.length by omega)]
end Go.Proofs.YtphgaemmbdogmaaDoor
