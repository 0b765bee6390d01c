/- Digests that come in. -/
import Derived.Test.YtjjahcidncnogaaDoorShaTab
namespace Go.Proofs.YtjjahcidncnogaaDoor
open Go.ChangeShapes Go.WideShapes Go.ChangeAt Go.RowKit Go.Lib

set_option maxRecDepth 100000 in
theorem open_digest {H : Type} {enc : TypeId × Value → H} {W : World} {base b0 : Nat} {sp : Nat → Bool} {held : Bool} {v : Value} {d : DataW H} {p : List MemPlace}
    (hv : Value.okWide Tryd.prog W .any b0 48 v) (h : DataW.Trod enc Tryd.prog W base sp held 48 v d p) : ∃ D : List UInt8, v = dig D ∧ D.length = 32 := by
  simp only [Value.okWide, Tryd.underlying48] at hv
  obtain ⟨cs, rfl, hsz, _⟩ := hv
  have h32 : cs.size = 32 := hsz.trans (by kernel_rfl)
  obtain ⟨fuel, hf⟩ := h
  obtain ⟨xs, m, _, _, hl, hlen, hel⟩ := DataW.trod_array Tryd.underlying48 hf
  have hc1 : Tryd.prog.cellsOf 5 = 1 := by kernel_rfl
  have hcell : ∀ i, i < 32 → ∃ n : Int, cs.toList[i]? = some (.int .u8 n) ∧ (Lit.int .u8 n).wf = true := by
    intro i hi
    have h1 := hel i hi
    rw [hc1, Nat.mul_one, List.getElem?_eq_getElem (by omega)] at h1
    obtain ⟨n, hn, _, hwf⟩ := DataW.trod_int Tryd.underlying5 h1
    refine ⟨n, ?_, hwf⟩
    have hi' : i < cs.toList.length := by rw [Array.length_toList]; omega
    have hn' : (cs.toList.drop i).take 1 = [.int .u8 n] := hn
    rw [List.drop_eq_getElem_cons hi', List.take_succ_cons, List.take_zero, List.cons.injEq] at hn'
    rw [List.getElem?_eq_getElem hi', hn'.1]
  refine ⟨cs.toList.map fun v => UInt8.ofNat (RowKit.intOf v).toNat, ?_, by rw [List.length_map, Array.length_toList]; exact h32⟩
  refine congrArg Value.agg (Array.ext' (List.ext_getElem? fun i => ?_))
  by_cases hi : i < 32
  · obtain ⟨n, hn, hwf⟩ := hcell i hi
    simp only [byteCells, List.map_map, List.getElem?_map, hn, Option.map_some, Function.comp, RowKit.intOf]
    simp [Lit.wf, IntKind.min, IntKind.max, IntKind.signed, IntKind.bits] at hwf
    congr 2
    simp only [UInt8.toNat_ofNat']
    omega
  · rw [List.getElem?_eq_none (by rw [Array.length_toList]; omega), List.getElem?_eq_none (by simp [byteCells]; omega)]

set_option maxRecDepth 100000 in
/-- A slice of bytes that is nil has no capacity. -/
theorem bytes_nil {H : Type} {enc : TypeId × Value → H} {W : World} {base : Nat} {sp : Nat → Bool} {held : Bool} {n c : Nat} {d : DataW H} {p : List MemPlace}
    (h : DataW.Trod enc Tryd.prog W base sp held 28 (.slice none n c) d p) : c = 0 := by
  obtain ⟨fuel, hf⟩ := h
  rcases open_ints Tryd.underlying28 Tryd.underlying5 cellsByte hf with ⟨hcs, hx⟩ | ⟨a, len', cap', zs, hcs, _⟩
  · simp [Value.cells] at hcs
    exact hcs.2
  · simp [Value.cells] at hcs
end Go.Proofs.YtjjahcidncnogaaDoor
