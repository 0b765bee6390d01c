/- Rows of bytes by order: bytes.Compare, sha's Compare. -/
import Derived.Test.YtphgaemmbdogmaaDoorShaWorks
import Derived.Lib.Bytealg
namespace Go.Proofs.YtphgaemmbdogmaaDoor
open Go.RowKit Go.Lib

theorem run_loadBytes {P : Program} (w : World) (b : Nat) : ∀ (l : List UInt8) (off : Nat) (acc : ByteArray), (∀ j, (h : j < l.length) → w.cell? ⟨b, off + j, none⟩ = some (.int .u8 l[j].toNat)) →
    (Extern.Bytes.loadBytes ⟨b, off, none⟩ l.length acc).run P w = .ok ⟨(acc.data.toList ++ l).toArray⟩ w
  | [], off, acc, _ => by
    simp [Extern.Bytes.loadBytes]
  | x :: l, off, acc, h => by
    have h0 := h 0 (by simp)
    simp only [Nat.add_zero, List.getElem_cons_zero] at h0
    have ih := run_loadBytes (P := P) w b l (off + 1) (acc.push x) (fun j hj => by
      have h1 := h (j + 1) (by simpa using hj)
      rw [show off + 1 + j = off + (j + 1) from by omega]
      simpa using h1)
    have hx : ((x.toNat : Int)).toNat.toUInt8 = x := by simp
    simp only [List.length_cons, Extern.Bytes.loadBytes, Sem.run_bind, run_load, h0, Result.andThen_ok, Addr.add_lit, hx]
    rw [ih]
    simp
theorem run_bytesOf {P : Program} {b K : Nat} {p : Option Addr} {l : List UInt8} {w : World} (c : Nat) (hB : Bytes b K p l w) : (Extern.Bytes.bytesOf (.slice p l.length c)).run P w = .ok ⟨l.toArray⟩ w := by
  cases p with
  | none =>
    have : l = [] := Classical.byContradiction fun hne => by obtain ⟨_, _, h, _⟩ := hB hne; cases h
    subst this
    rfl
  | some a =>
    by_cases hne : l = []
    · subst hne
      rfl
    · obtain ⟨pb, off, hp, _, _, hc⟩ := hB hne
      cases hp
      have h := run_loadBytes (P := P) w pb l off .empty hc
      show (Extern.Bytes.loadBytes ⟨pb, off, none⟩ l.length .empty).run P w = _
      rw [h]
      rfl
theorem run_cmp {P : Program} {b K : Nat} {p q : Option Addr} {l m : List UInt8} {w : World} (c d : Nat) (hB : Bytes b K p l w) (hC : Bytes b K q m w) :
    (Extern.BytealgCompare.compare #[.slice p l.length c, .slice q m.length d]).run P w = .ok (.int .i64 (compareBytes l m)) w := by
  change Sem.run P (do pure (goInt (Extern.BytealgCompare.cmp (← Extern.Bytes.bytesOf (.slice p l.length c)) (← Extern.Bytes.bytesOf (.slice q m.length d))))) w = _
  simp only [Sem.run_bind, run_bytesOf c hB, run_bytesOf d hC, Result.andThen_ok, Sem.run_pure, cmp_eq]
  rfl
set_option maxRecDepth 100000 in
theorem compare_any (b K : Nat) (p q : Option Addr) (l m : List UInt8) (c d : Nat) (w : World) (hB : Bytes b K p l w) (hC : Bytes b K q m w) :
    Calls Tryd.prog 42 #[.slice p l.length c, .slice q m.length d] w fun e w' => e = .returned (.int .i64 (compareBytes l m)) ∧ w' = w := by
  have hr := run_cmp (P := Tryd.prog) c d hB hC
  clear hB hC
  go_enter Tryd.func42, Tryd.ntmps42
  go_wp2_with fail
  rw [run_callFunc_extern Tryd.func64 (by kernel_rfl) (by kernel_rfl) (by kernel_rfl) (e := Extern.BytealgCompare.compare) (by kernel_rfl), hr]
  simp only [Result.andThen]
  rw [Oper.upon_value]
  go_wp2_with fail
  go_ret
  exact ⟨rfl, rfl⟩

/-! ### The order of rows of bytes -/
theorem cmp_range : ∀ (a b : List UInt8), compareBytes a b = -1 ∨ compareBytes a b = 0 ∨ compareBytes a b = 1
  | [], [] => .inr (.inl rfl)
  | [], _ :: _ => .inl rfl
  | _ :: _, [] => .inr (.inr rfl)
  | x :: a, y :: b => by
    unfold compareBytes
    split
    · exact .inl rfl
    · split
      · exact .inr (.inr rfl)
      · exact cmp_range a b
theorem cmp_swap : ∀ (a b : List UInt8), compareBytes b a = -compareBytes a b
  | [], [] => rfl
  | [], _ :: _ => rfl
  | _ :: _, [] => rfl
  | x :: a, y :: b => by
    unfold compareBytes
    by_cases h : x < y
    · have h2 : ¬ y < x := by simp only [UInt8.lt_iff_toNat_lt] at *; omega
      rw [if_pos h, if_neg h2, if_pos h]
      rfl
    · by_cases h2 : y < x
      · rw [if_pos h2, if_neg h, if_pos h2]
      · rw [if_neg h2, if_neg h, if_neg h, if_neg h2]
        exact cmp_swap a b
theorem cmp_zero : ∀ (a b : List UInt8), compareBytes a b = 0 ↔ a = b
  | [], [] => by simp [compareBytes]
  | [], _ :: _ => by simp [compareBytes]
  | _ :: _, [] => by simp [compareBytes]
  | x :: a, y :: b => by
    unfold compareBytes
    by_cases h : x < y
    · rw [if_pos h]
      simp only [List.cons.injEq]
      constructor
      · intro h'; omega
      · rintro ⟨rfl, _⟩; simp only [UInt8.lt_iff_toNat_lt] at h; omega
    · by_cases h2 : y < x
      · rw [if_neg h, if_pos h2]
        simp only [List.cons.injEq]
        constructor
        · intro h'; omega
        · rintro ⟨rfl, _⟩; simp only [UInt8.lt_iff_toNat_lt] at h2; omega
      · rw [if_neg h, if_neg h2, cmp_zero a b]
        have : x = y := by simp only [UInt8.lt_iff_toNat_lt] at *; exact UInt8.toNat_inj.1 (by omega)
        simp [this]
theorem cmp_trans : ∀ (a b c : List UInt8), compareBytes a b ≤ 0 → compareBytes b c ≤ 0 → compareBytes a c ≤ 0
  | [], [], [], _, _ => by simp [compareBytes]
  | [], _, _ :: _, _, _ => by simp [compareBytes]
  | [], _ :: _, [], _, h => by simp [compareBytes] at h
  | _ :: _, [], _, h, _ => by simp [compareBytes] at h
  | _ :: _, _ :: _, [], _, h => by simp [compareBytes] at h
  | x :: a, y :: b, z :: c, h, k => by
    unfold compareBytes at h k ⊢
    by_cases h1 : x < y
    · by_cases k1 : y < z
      · have : x < z := by simp only [UInt8.lt_iff_toNat_lt] at *; omega
        rw [if_pos this]; decide
      · rw [if_neg k1] at k
        by_cases k2 : z < y
        · rw [if_pos k2] at k; omega
        · have : x < z := by simp only [UInt8.lt_iff_toNat_lt] at *; omega
          rw [if_pos this]; decide
    · rw [if_neg h1] at h
      by_cases h2 : y < x
      · rw [if_pos h2] at h; omega
      · rw [if_neg h2] at h
        have e : x = y := by simp only [UInt8.lt_iff_toNat_lt] at *; exact UInt8.toNat_inj.1 (by omega)
        subst e
        by_cases k1 : x < z
        · rw [if_pos k1]; decide
        · rw [if_neg k1] at k ⊢
          by_cases k2 : z < x
          · rw [if_pos k2] at k; omega
          · rw [if_neg k2] at k ⊢
            exact cmp_trans a b c h k

/-- bytes of an array's slice. -/
theorem dig_bytes {w : World} {B b K : Nat} {D : List UInt8} (h : w.heap[B]? = some (.cells (byteCells D).toArray 24 (0, 0))) (hB : B < b) (hK : B ≠ K) : Bytes b K (some ⟨B, 0, none⟩) D w := fun _ =>
  ⟨B, 0, rfl, hB, hK, fun j hj => by
    rw [cell_of_heap h, Nat.zero_add]
    simp [byteCells, List.getElem?_eq_getElem hj]⟩

set_option maxRecDepth 100000 in
set_option maxHeartbeats 1000000 in
theorem shaCompare_any (D E : List UInt8) (hD : D.length = 32) (hE : E.length = 32) (w : World) :
    Calls Tryd.prog 28 #[dig D, dig E] w fun e w' => e = .returned (.int .i64 (compareBytes D E)) ∧ Below w.heap.size w w' := by
  obtain ⟨v, hv⟩ : ∃ v, v = (w.alloc (.cells (byteCells D).toArray 24)).alloc (.cells (byteCells E).toArray 24) := ⟨_, rfl⟩
  have HV := Lib.hid hv
  have HG : Hid (Below w.heap.size w v) := Lib.hid (by rw [hv]; exact ((Below.refl _ w).alloc (Nat.le_refl _) _).alloc (by simp) _)
  have h1 : v.heap[w.heap.size]? = some (.cells (byteCells D).toArray 24 (0, 0)) := by
    rw [hv, (MapKept.heap_alloc _ _).2 _ (by simp), (MapKept.heap_alloc _ _).1]
  have h2 : v.heap[w.heap.size + 1]? = some (.cells (byteCells E).toArray 24 (0, 0)) := by
    rw [hv]
    have h := (MapKept.heap_alloc (w.alloc (.cells (byteCells D).toArray 24)) (.cells (byteCells E).toArray 24)).1
    simp only [World.size_alloc] at h
    exact h
  have HC : Hid (∀ n c d, Calls Tryd.prog 42 #[.slice (some ⟨w.heap.size, 0, none⟩) 32 c, .slice (some ⟨w.heap.size + 1, 0, none⟩) 32 d] (v.drewN n) fun e w' => e = .returned (.int .i64 (compareBytes D E)) ∧ w' = v.drewN n) := Lib.hid (fun n c d => by
    have h := compare_any (w.heap.size + 2) (w.heap.size + 2) (some ⟨w.heap.size, 0, none⟩) (some ⟨w.heap.size + 1, 0, none⟩) D E c d (v.drewN n) (dig_bytes (w := v) h1 (by omega) (by omega)) (dig_bytes (w := v) h2 (by omega) (by omega))
    rw [hD, hE] at h
    exact h)
  unfold dig
  generalize (byteCells D).toArray = X at *
  generalize (byteCells E).toArray = Y at *
  clear h1 h2 hv hD hE
  go_enter Tryd.func28, Tryd.ntmps28
  go_wp2_with fail
  rw [← HV.out]
  go_quiet ((go_at_call 42; exact Calls.quiet_of_same (HC.out _ _ _)))
  go_wp2_with fail
  go_ret
  exact ⟨rfl, below_drawn _ HG.out⟩

/-! ### Two digests by == -/
theorem items_any (D E : List UInt8) (hDE : D.length = E.length) (d : Nat) (w : World) : ∀ is : List Nat, (∀ i ∈ is, i < D.length) → (Op.eqItems (d + 1) 5 1 (byteCells D).toArray (byteCells E).toArray is).run Tryd.prog w = .ok (is.all fun i => D[i]? == E[i]?) w := by
  intro is
  induction is with
  | nil => intro _; simp [Op.eqItems]
  | cons i is ih =>
    intro h
    have hi := h i List.mem_cons_self
    have hi2 : i < E.length := by omega
    have hp : (Go.part 5 (byteCells D).toArray (i * 1)).run Tryd.prog w = .ok (.int .u8 D[i].toNat) w := by
      have hc : (byteCells D).toArray[i]? = some (.int .u8 D[i].toNat) := by simp [byteCells, List.getElem?_eq_getElem hi]
      simp [Go.part, isAgg, run_underlying Tryd.underlying5, hc]
    have hq : (Go.part 5 (byteCells E).toArray (i * 1)).run Tryd.prog w = .ok (.int .u8 E[i].toNat) w := by
      have hc : (byteCells E).toArray[i]? = some (.int .u8 E[i].toNat) := by simp [byteCells, List.getElem?_eq_getElem hi2]
      simp [Go.part, isAgg, run_underlying Tryd.underlying5, hc]
    have he := run_equalIn_int (P := Tryd.prog) w d 5 .u8 .u8 D[i].toNat E[i].toNat Tryd.underlying5
    rw [List.all_cons, List.getElem?_eq_getElem hi, List.getElem?_eq_getElem hi2]
    simp only [Op.eqItems, Sem.run_bind, hp, hq, Result.andThen_ok, he]
    by_cases hxy : D[i] = E[i]
    · rw [hxy]
      simp only [beq_self_eq_true, Bool.not_true, Bool.false_eq_true, if_false, Bool.true_and]
      exact ih fun j hj => h j (List.mem_cons_of_mem _ hj)
    · have h1 : (((D[i].toNat : Nat) : Int) == ((E[i].toNat : Nat) : Int)) = false := by
        rw [beq_eq_false_iff_ne]
        intro h
        exact hxy (UInt8.toNat_inj.1 (by omega))
      have h2 : ((some D[i] : Option UInt8) == some E[i]) = false := by
        rw [beq_eq_false_iff_ne]
        intro h
        exact hxy (Option.some.inj h)
      rw [h1, h2]
      simp
theorem dig_all (D E : List UInt8) (hD : D.length = 32) (hE : E.length = 32) : (∀ i ∈ List.range 32, (D[i]? == E[i]?) = true) ↔ D = E := by
  constructor
  · intro h
    apply List.ext_getElem?
    intro i
    by_cases hi : i < 32
    · simpa using h i (List.mem_range.2 hi)
    · rw [List.getElem?_eq_none (by omega), List.getElem?_eq_none (by omega)]
  · rintro rfl i _
    simp
theorem dig_eq (D E : List UInt8) (hD : D.length = 32) (hE : E.length = 32) (w : World) : (Op.equalIn 10000 24 (dig D) (dig E)).run Tryd.prog w = .ok (decide (D = E)) w := by
  obtain ⟨i0, hi, hz0, hz1, hz2⟩ := info_parts infoByte
  unfold dig
  rw [run_equalIn_array w 9999 _ _ (Tryd.underlying24) hi, show Tryd.prog.cellsOf 5 = 1 by kernel_rfl]
  rw [items_any D E (by rw [hD, hE]) 9998 w _ fun i hi => by have := List.mem_range.1 hi; omega]
  have e : ((List.range 32).all fun i => D[i]? == E[i]?) = decide (D = E) := by
    rw [Bool.eq_iff_iff, List.all_eq_true, decide_eq_true_iff]
    exact dig_all D E hD hE
  rw [e]
end Go.Proofs.YtphgaemmbdogmaaDoor
