/- Rows of bytes that come in: what a slice of bytes reads as, and the text that it is converted to. -/
import Derived.Test.YtaaiikjjfleooaaPut
import Derived.ProofKit
import Derived.OpenShut
import Derived.Carry
import Derived.ChangeSlices
import Derived.Laws.IdiomStrings
namespace Go.Proofs.Ytaaiikjjfleooaa
open Go.ChangeShapes Go.WideShapes Go.ChangeAt Go.RowKit Go.Lib

theorem cellsByte : Try.prog.cellsOf 5 = 1 := by kernel_rfl

set_option maxRecDepth 100000 in
/-- A slice of bytes that came in. -/
theorem bytes_open {H : Type} {enc : TypeId × Value → H} {W : World} {base b0 : Nat} {sp : Nat → Bool} {held : Bool} {v : Value} {d : DataW H} {p : List MemPlace}
    (hv : Value.okWide Try.prog W .any b0 22 v) (h : DataW.Trod enc Try.prog W base sp held 22 v d p) (K : Nat) (hK : W.heap.size ≤ K) :
    ∃ (q : Option Addr) (cap : Nat) (l : List UInt8), v = .slice q l.length cap ∧ l.length ≤ maxLen ∧ (q = none → l = []) ∧ Bytes W.heap.size K q l W ∧ (d = .nil ∧ l = [] ∨ ∃ es sp, d = .slice es sp ∧ es.length = l.length) := by
  obtain ⟨a1, len, cap, rfl⟩ := okWide_slice Try.underlying22 hv
  obtain ⟨fuel, hf⟩ := h
  rcases open_ints Try.underlying22 Try.underlying5 cellsByte hf with ⟨hcs, hx⟩ | ⟨a, len', cap', zs, hcs, _, hl, hm, hz, hx, hcell, hwz⟩
  · simp [Value.cells] at hcs
    obtain ⟨rfl, rfl, rfl⟩ := hcs
    simp only [Prod.mk.injEq] at hx
    exact ⟨none, 0, [], rfl, Nat.zero_le _, fun _ => rfl, fun h => absurd rfl h, .inl ⟨hx.1, rfl⟩⟩
  · simp [Value.cells] at hcs
    obtain ⟨rfl, rfl, rfl⟩ := hcs
    have hle : len ≤ zs.length := by rw [hz]; split <;> omega
    have hlen : ((zs.take len).map fun n => UInt8.ofNat n.toNat).length = len := by simp; omega
    refine ⟨some a, cap, (zs.take len).map fun n => UInt8.ofNat n.toNat, by rw [hlen], by rw [hlen]; omega, fun h => (by cases h), fun hne => ?_, .inr ⟨_, _, by simp only [Prod.mk.injEq] at hx; exact hx.1, by rw [hlen]; simp [lits]; omega⟩⟩
    have h0 : 0 < len := by
      rcases Nat.eq_zero_or_pos len with h | h
      · subst h; simp at hne
      · exact h
    obtain ⟨ab, ao, spot⟩ := a
    have hspot : spot = none := by simpa [Addr.add] using World.cell?_spot (hcell 0 (by omega))
    subst hspot
    have hblk : ab < W.heap.size := by
      have hc := hcell 0 (by omega)
      rw [Addr.add_lit] at hc
      exact World.block_lt_of_cell? _ _ hc
    refine ⟨ab, ao, rfl, hblk, by omega, fun j hj => ?_⟩
    rw [hlen] at hj
    have hc := hcell j (by omega)
    rw [Addr.add_lit] at hc
    rw [hc]
    have e : zs.getD j 0 = zs[j]'(by omega) := by simp [List.getD, List.getElem?_eq_getElem (show j < zs.length by omega)]
    have hb := hwz (zs[j]'(by omega)) (List.getElem_mem _)
    simp only [List.getElem_map, List.getElem_take, e]
    simp [Lit.wf, IntKind.min, IntKind.max, IntKind.signed, IntKind.bits] at hb
    congr 2
    simp only [UInt8.toNat_ofNat']
    omega

theorem bytesByte : Try.prog.bytesOf 5 = 1 := by kernel_rfl

/-- No row of bytes that comes in is longer than Go's memory. -/
theorem bytes_reach {H : Type} {ts : List TypeId} {ds : List (DataW H)} (h : (DataW.weightsEach Try.prog ts ds).all (· ≤ reachBytes) = true) {j : Nat} {d : DataW H} {l : List UInt8} (ht : ts[j]? = some 22) (hd : ds[j]? = some d)
    (hl : d = .nil ∧ l = [] ∨ ∃ es sp, d = .slice es sp ∧ es.length = l.length) : l.length ≤ 140737488351232 := by
  rcases hl with ⟨_, rfl⟩ | ⟨es, sp, rfl, he⟩
  · exact Nat.zero_le _
  · have := sized_slice h ht hd Try.underlying22
    rw [bytesByte] at this
    simp only [reachBytes] at this
    omega

/-- The text of a row of bytes. -/
theorem bytes_text {b K : Nat} {p : Option Addr} {l : List UInt8} {w : World} (cap : Nat) (hB : Bytes b K p l w) (hn : p = none → l = []) :
    (convert 22 9 (.slice p l.length cap)).run Try.prog w = .ok (.string ⟨l.toArray⟩) w := by
  cases p with
  | none =>
    rw [hn rfl, run_convert_bytes_string w 22 9 5 none _ _ Try.underlying22 Try.underlying5 Try.underlying9]
    rfl
  | some a =>
    refine run_convert_bytes_back w 22 9 5 a cap l Try.underlying22 Try.underlying5 Try.underlying9 fun j hj => ?_
    obtain ⟨pb, off, hp, _, _, hc⟩ := hB (by intro e; rw [e] at hj; simp at hj)
    cases hp
    rw [Addr.add_lit]
    exact hc j hj

theorem Bytes.keep {b K : Nat} {p : Option Addr} {l : List UInt8} {w w' : World} (hB : Bytes b K p l w) (h : Below b w w') : Bytes b K p l w' := fun hne =>
  let ⟨pb, off, hp, h1, h2, hc⟩ := hB hne
  ⟨pb, off, hp, h1, h2, fun j hj => (h.cell (p := ⟨pb, off + j, none⟩) h1).trans (hc j hj)⟩
theorem Bytes.at {b K b' K' : Nat} {p : Option Addr} {l : List UInt8} {w : World} (hB : Bytes b K p l w) (hb : b ≤ b') (hK : b ≤ K') : Bytes b' K' p l w := fun hne =>
  let ⟨pb, off, hp, h1, _, hc⟩ := hB hne
  ⟨pb, off, hp, by omega, by omega, hc⟩
theorem Bytes.drewN {b K : Nat} {p : Option Addr} {l : List UInt8} {w : World} (hB : Bytes b K p l w) (n : Nat) : Bytes b K p l (w.drewN n) := hB
end Go.Proofs.Ytaaiikjjfleooaa
