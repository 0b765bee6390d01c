/- States and blocks that come in; a state is the same as itself. -/
import Derived.Test.YtjjahcidncnogaaDoorShaOpen
namespace Go.Proofs.YtjjahcidncnogaaDoor
open Go.ChangeShapes Go.WideShapes Go.ChangeAt Go.RowKit Go.Lib

set_option maxRecDepth 100000 in
theorem open_state {H : Type} {enc : TypeId × Value → H} {W : World} {base b0 : Nat} {sp : Nat → Bool} {held : Bool} {v : Value} {d : DataW H} {p : List MemPlace}
    (hv : Value.okWide Tryd.prog W .any b0 26 v) (h : DataW.Trod enc Tryd.prog W base sp held 26 v d p) : ∃ D : List Int, v = .agg (cells32 D) ∧ D.length = 8 ∧ ∀ x ∈ D, 0 ≤ x ∧ x < 4294967296 := by
  simp only [Value.okWide, Tryd.underlying26] at hv
  obtain ⟨cs, rfl, hsz, _⟩ := hv
  have h32 : cs.size = 8 := hsz.trans (by kernel_rfl)
  obtain ⟨fuel, hf⟩ := h
  obtain ⟨xs, m, _, _, hl, hlen, hel⟩ := DataW.trod_array Tryd.underlying26 hf
  have hc1 : Tryd.prog.cellsOf 25 = 1 := by kernel_rfl
  have hcell : ∀ i, i < 8 → ∃ n : Int, cs.toList[i]? = some (.int .u32 n) ∧ (Lit.int .u32 n).wf = true := by
    intro i hi
    have h1 := hel i hi
    rw [hc1, Nat.mul_one, List.getElem?_eq_getElem (by omega)] at h1
    obtain ⟨n, hn, _, hwf⟩ := DataW.trod_int Tryd.underlying25 h1
    refine ⟨n, ?_, hwf⟩
    have hi' : i < cs.toList.length := by rw [Array.length_toList]; omega
    have hn' : (cs.toList.drop i).take 1 = [.int .u32 n] := hn
    rw [List.drop_eq_getElem_cons hi', List.take_succ_cons, List.take_zero, List.cons.injEq] at hn'
    rw [List.getElem?_eq_getElem hi', hn'.1]
  refine ⟨cs.toList.map RowKit.intOf, ?_, by rw [List.length_map, Array.length_toList]; exact h32, fun x hx => ?_⟩
  · refine congrArg Value.agg (Array.ext' (List.ext_getElem? fun i => ?_))
    by_cases hi : i < 8
    · obtain ⟨n, hn, hwf⟩ := hcell i hi
      simp only [cells32, List.map_map, List.getElem?_map, hn, Option.map_some, Function.comp, RowKit.intOf]
    · rw [List.getElem?_eq_none (by rw [Array.length_toList]; omega), List.getElem?_eq_none (by simp [cells32]; omega)]
  · obtain ⟨y, hy, rfl⟩ := List.mem_map.1 hx
    obtain ⟨i, hi, rfl⟩ := List.getElem_of_mem hy
    obtain ⟨n, hn, hwf⟩ := hcell i (by rw [Array.length_toList] at hi; omega)
    rw [List.getElem?_eq_getElem hi] at hn
    rw [Option.some.inj hn]
    simp [Lit.wf, IntKind.min, IntKind.max, IntKind.signed, IntKind.bits] at hwf
    show 0 ≤ n ∧ n < 4294967296
    omega

set_option maxRecDepth 100000 in
theorem open_block {H : Type} {enc : TypeId × Value → H} {W : World} {base b0 : Nat} {sp : Nat → Bool} {held : Bool} {v : Value} {d : DataW H} {p : List MemPlace}
    (hv : Value.okWide Tryd.prog W .any b0 112 v) (h : DataW.Trod enc Tryd.prog W base sp held 112 v d p) : ∃ D : List Int, v = .agg (cells8 D) ∧ D.length = 64 ∧ ∀ x ∈ D, 0 ≤ x ∧ x < 256 := by
  simp only [Value.okWide, Tryd.underlying112] at hv
  obtain ⟨cs, rfl, hsz, _⟩ := hv
  have h32 : cs.size = 64 := hsz.trans (by kernel_rfl)
  obtain ⟨fuel, hf⟩ := h
  obtain ⟨xs, m, _, _, hl, hlen, hel⟩ := DataW.trod_array Tryd.underlying112 hf
  have hc1 : Tryd.prog.cellsOf 5 = 1 := by kernel_rfl
  have hcell : ∀ i, i < 64 → ∃ n : Int, cs.toList[i]? = some (.int .u8 n) ∧ (Lit.int .u8 n).wf = true := by
    intro i hi
    have h1 := hel i hi
    rw [hc1, Nat.mul_one, List.getElem?_eq_getElem (by omega)] at h1
    obtain ⟨n, hn, _, hwf⟩ := DataW.trod_int Tryd.underlying5 h1
    refine ⟨n, ?_, hwf⟩
    have hi' : i < cs.toList.length := by rw [Array.length_toList]; omega
    have hn' : (cs.toList.drop i).take 1 = [.int .u8 n] := hn
    rw [List.drop_eq_getElem_cons hi', List.take_succ_cons, List.take_zero, List.cons.injEq] at hn'
    rw [List.getElem?_eq_getElem hi', hn'.1]
  refine ⟨cs.toList.map RowKit.intOf, ?_, by rw [List.length_map, Array.length_toList]; exact h32, fun x hx => ?_⟩
  · refine congrArg Value.agg (Array.ext' (List.ext_getElem? fun i => ?_))
    by_cases hi : i < 64
    · obtain ⟨n, hn, hwf⟩ := hcell i hi
      simp only [cells8, List.map_map, List.getElem?_map, hn, Option.map_some, Function.comp, RowKit.intOf]
    · rw [List.getElem?_eq_none (by rw [Array.length_toList]; omega), List.getElem?_eq_none (by simp [cells8]; omega)]
  · obtain ⟨y, hy, rfl⟩ := List.mem_map.1 hx
    obtain ⟨i, hi, rfl⟩ := List.getElem_of_mem hy
    obtain ⟨n, hn, hwf⟩ := hcell i (by rw [Array.length_toList] at hi; omega)
    rw [List.getElem?_eq_getElem hi] at hn
    rw [Option.some.inj hn]
    simp [Lit.wf, IntKind.min, IntKind.max, IntKind.signed, IntKind.bits] at hwf
    show 0 ≤ n ∧ n < 256
    omega

theorem items_same32 (L : List Int) (d : Nat) (w : World) : ∀ is : List Nat, (∀ i ∈ is, i < L.length) → (Op.eqItems (d + 1) 25 1 (cells32 L) (cells32 L) is).run Tryd.prog w = .ok true w := by
  intro is
  induction is with
  | nil => intro _; simp [Op.eqItems]
  | cons i is ih =>
    intro h
    have hi := h i List.mem_cons_self
    have hp : (Go.part 25 (cells32 L) (i * 1)).run Tryd.prog w = .ok (.int .u32 (L.getD i 0)) w := by
      have hc := cells32_get L i hi
      rw [Nat.mul_one]
      simp [Go.part, isAgg, run_underlying Tryd.underlying25, hc]
    have he := run_equalIn_int (P := Tryd.prog) w d 25 .u32 .u32 (L.getD i 0) (L.getD i 0) Tryd.underlying25
    simp only [Op.eqItems, Sem.run_bind, hp, Result.andThen_ok, he, beq_self_eq_true, Bool.not_true, Bool.false_eq_true, if_false]
    exact ih fun j hj => h j (List.mem_cons_of_mem _ hj)
theorem infoWord : (Tryd.prog.info? 25).map (fun i => (i.zero, i.size, i.bytes)) = some (some (.int .u32 0), 1, 4) := by kernel_rfl
theorem state_same (L : List Int) (hL : L.length = 8) (w : World) : (Op.equalIn 10000 26 (.agg (cells32 L)) (.agg (cells32 L))).run Tryd.prog w = .ok true w := by
  obtain ⟨i0, hi, hz0, hz1, hz2⟩ := info_parts infoWord
  rw [run_equalIn_array w 9999 _ _ (Tryd.underlying26) hi, show Tryd.prog.cellsOf 25 = 1 by kernel_rfl]
  exact items_same32 L 9998 w _ fun i hi => by have := List.mem_range.1 hi; omega
end Go.Proofs.YtjjahcidncnogaaDoor
