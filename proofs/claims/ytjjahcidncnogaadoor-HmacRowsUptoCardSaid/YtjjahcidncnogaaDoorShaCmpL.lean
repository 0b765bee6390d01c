/- Bytes as they lie; digests that are the same. -/
import Derived.Test.YtjjahcidncnogaaDoorShaWorks
import Derived.Lib.Bytealg
namespace Go.Proofs.YtjjahcidncnogaaDoor
open Go.RowKit Go.Lib

theorem run_loadBytes {P : Program} (w : World) (b : Nat) : ∀ (l : List UInt8) (off : Nat) (acc : ByteArray), (∀ j, (h : j < l.length) → w.cell? ⟨b, off + j, none⟩ = some (.int .u8 l[j].toNat)) →
    (Extern.Bytes.loadBytes ⟨b, off, none⟩ l.length acc).run P w = .ok ⟨(acc.data.toList ++ l).toArray⟩ w
  | [], off, acc, _ => by
    simp [Extern.Bytes.loadBytes]
  | x :: l, off, acc, h => by
    have h0 := h 0 (by simp)
    simp only [Nat.add_zero, List.getElem_cons_zero] at h0
    have ih := run_loadBytes (P := P) w b l (off + 1) (acc.push x) (fun j hj => by
      have h1 := h (j + 1) (by simpa using hj)
      rw [show off + 1 + j = off + (j + 1) from by omega]
      simpa using h1)
    have hx : ((x.toNat : Int)).toNat.toUInt8 = x := by simp
    simp only [List.length_cons, Extern.Bytes.loadBytes, Sem.run_bind, run_load, h0, Result.andThen_ok, Addr.add_lit, hx]
    rw [ih]
    simp
theorem run_bytesOf {P : Program} {b K : Nat} {p : Option Addr} {l : List UInt8} {w : World} (c : Nat) (hB : Bytes b K p l w) : (Extern.Bytes.bytesOf (.slice p l.length c)).run P w = .ok ⟨l.toArray⟩ w := by
  cases p with
  | none =>
    have : l = [] := Classical.byContradiction fun hne => by obtain ⟨_, _, h, _⟩ := hB hne; cases h
    subst this
    rfl
  | some a =>
    by_cases hne : l = []
    · subst hne
      rfl
    · obtain ⟨pb, off, hp, _, _, hc⟩ := hB hne
      cases hp
      have h := run_loadBytes (P := P) w pb l off .empty hc
      show (Extern.Bytes.loadBytes ⟨pb, off, none⟩ l.length .empty).run P w = _
      rw [h]
      rfl
/-- bytes of an array's slice. -/
theorem dig_bytes {w : World} {B b K : Nat} {D : List UInt8} (h : w.heap[B]? = some (.cells (byteCells D).toArray 48 (0, 0))) (hB : B < b) (hK : B ≠ K) : Bytes b K (some ⟨B, 0, none⟩) D w := fun _ =>
  ⟨B, 0, rfl, hB, hK, fun j hj => by
    rw [cell_of_heap h, Nat.zero_add]
    simp [byteCells, List.getElem?_eq_getElem hj]⟩
theorem items_any (D E : List UInt8) (hDE : D.length = E.length) (d : Nat) (w : World) : ∀ is : List Nat, (∀ i ∈ is, i < D.length) → (Op.eqItems (d + 1) 5 1 (byteCells D).toArray (byteCells E).toArray is).run Tryd.prog w = .ok (is.all fun i => D[i]? == E[i]?) w := by
  intro is
  induction is with
  | nil => intro _; simp [Op.eqItems]
  | cons i is ih =>
    intro h
    have hi := h i List.mem_cons_self
    have hi2 : i < E.length := by omega
    have hp : (Go.part 5 (byteCells D).toArray (i * 1)).run Tryd.prog w = .ok (.int .u8 D[i].toNat) w := by
      have hc : (byteCells D).toArray[i]? = some (.int .u8 D[i].toNat) := by simp [byteCells, List.getElem?_eq_getElem hi]
      simp [Go.part, isAgg, run_underlying Tryd.underlying5, hc]
    have hq : (Go.part 5 (byteCells E).toArray (i * 1)).run Tryd.prog w = .ok (.int .u8 E[i].toNat) w := by
      have hc : (byteCells E).toArray[i]? = some (.int .u8 E[i].toNat) := by simp [byteCells, List.getElem?_eq_getElem hi2]
      simp [Go.part, isAgg, run_underlying Tryd.underlying5, hc]
    have he := run_equalIn_int (P := Tryd.prog) w d 5 .u8 .u8 D[i].toNat E[i].toNat Tryd.underlying5
    rw [List.all_cons, List.getElem?_eq_getElem hi, List.getElem?_eq_getElem hi2]
    simp only [Op.eqItems, Sem.run_bind, hp, hq, Result.andThen_ok, he]
    by_cases hxy : D[i] = E[i]
    · rw [hxy]
      simp only [beq_self_eq_true, Bool.not_true, Bool.false_eq_true, if_false, Bool.true_and]
      exact ih fun j hj => h j (List.mem_cons_of_mem _ hj)
    · have h1 : (((D[i].toNat : Nat) : Int) == ((E[i].toNat : Nat) : Int)) = false := by
        rw [beq_eq_false_iff_ne]
        intro h
        exact hxy (UInt8.toNat_inj.1 (by omega))
      have h2 : ((some D[i] : Option UInt8) == some E[i]) = false := by
        rw [beq_eq_false_iff_ne]
        intro h
        exact hxy (Option.some.inj h)
      rw [h1, h2]
      simp
theorem dig_all (D E : List UInt8) (hD : D.length = 32) (hE : E.length = 32) : (∀ i ∈ List.range 32, (D[i]? == E[i]?) = true) ↔ D = E := by
  constructor
  · intro h
    apply List.ext_getElem?
    intro i
    by_cases hi : i < 32
    · simpa using h i (List.mem_range.2 hi)
    · rw [List.getElem?_eq_none (by omega), List.getElem?_eq_none (by omega)]
  · rintro rfl i _
    simp
theorem dig_eq (D E : List UInt8) (hD : D.length = 32) (hE : E.length = 32) (w : World) : (Op.equalIn 10000 48 (dig D) (dig E)).run Tryd.prog w = .ok (decide (D = E)) w := by
  obtain ⟨i0, hi, hz0, hz1, hz2⟩ := info_parts infoByte
  unfold dig
  rw [run_equalIn_array w 9999 _ _ (Tryd.underlying48) hi, show Tryd.prog.cellsOf 5 = 1 by kernel_rfl]
  rw [items_any D E (by rw [hD, hE]) 9998 w _ fun i hi => by have := List.mem_range.1 hi; omega]
  have e : ((List.range 32).all fun i => D[i]? == E[i]?) = decide (D = E) := by
    rw [Bool.eq_iff_iff, List.all_eq_true, decide_eq_true_iff]
    exact dig_all D E hD hE
  rw [e]
end Go.Proofs.YtjjahcidncnogaaDoor
