/- Rows of rows of bytes: what a slice of slices reads as, one that comes in, appends of its parts. -/
import Derived.Test.YtjjahcidncnogaaDoorRowB
import Derived.Laws.AppendOwnNone
import Derived.Deep.Slices
namespace Go.Proofs.YtjjahcidncnogaaDoor
open Go.ChangeShapes Go.WideShapes Go.ChangeAt Go.RowKit Go.Lib

/-- A row of rows of bytes: N slices, each of which reads as a row of bytes. -/
def Rowed (b : Nat) (p : Option Addr) (N : Nat) (P : Nat → Option Addr) (C : Nat → Nat) (L : Nat → List UInt8) (w : World) : Prop :=
  (0 < N → ∃ pb off, p = some ⟨pb, off, none⟩ ∧ pb < b ∧ ∀ i, i < N → w.cell? ⟨pb, off + i, none⟩ = some (.slice (P i) (L i).length (C i))) ∧
    ∀ i, i < N → (P i = none → L i = [] ∧ C i = 0) ∧ Bytes b b (P i) (L i) w ∧ (L i).length ≤ 140737488351232
theorem Rowed.keep {b : Nat} {p : Option Addr} {N : Nat} {P : Nat → Option Addr} {C : Nat → Nat} {L : Nat → List UInt8} {w w' : World} (h : Rowed b p N P C L w) (hb : Below b w w') : Rowed b p N P C L w' :=
  ⟨fun hN => let ⟨pb, off, hp, h1, h2⟩ := h.1 hN; ⟨pb, off, hp, h1, fun i hi => (hb.cell (p := ⟨pb, off + i, none⟩) h1).trans (h2 i hi)⟩,
    fun i hi => let ⟨h1, h2, h3⟩ := h.2 i hi; ⟨h1, h2.keep hb, h3⟩⟩

/-- The bytes of the first pieces, and how many they are, and they. -/
def cat (L : Nat → List UInt8) : Nat → List UInt8
  | 0 => []
  | k + 1 => cat L k ++ L k
def sum8 (L : Nat → List UInt8) : Nat → Nat
  | 0 => 0
  | k + 1 => sum8 L k + ((L k).length + 1)
theorem sum8_cat (L : Nat → List UInt8) : ∀ k, (cat L k).length + k = sum8 L k
  | 0 => rfl
  | k + 1 => by have := sum8_cat L k; simp only [cat, sum8, List.length_append]; omega
theorem sum8_le (L : Nat → List UInt8) {i k : Nat} (h : i ≤ k) : sum8 L i ≤ sum8 L k := by
  induction k with
  | zero => have : i = 0 := by omega
            subst this; exact Nat.le_refl _
  | succ k ih =>
    by_cases e : i = k + 1
    · subst e; exact Nat.le_refl _
    · have := ih (by omega); simp only [sum8]; omega

/-- append of a piece to a row of the call's own; nothing is appended where the piece is nil. -/
theorem wpList_append_piece {w : World} {ops : Array Oper} {rest : List Oper} {o : Oper} {a : Act} {Q : Exit → Act → World → Prop} (hgd : o.guard = none) (s x : Operand)
    (ho : o.op = .call { callee := .builtin .append, args := #[s, x], argTypes := #[28, 28] }) (base : Nat) (v : Value) (n : Nat) (xs : List UInt8) (hs : a.eval s = v) (hown : w.ownsRow base 5 1 v n (byteCells xs))
    (q : Option Addr) (m c t : Nat) (l : List UInt8) (hx : a.eval x = .slice q m c) (hl : l.length = m) (hnil : q = none → m = 0 ∧ c = 0) (b K : Nat) (hB : Bytes b K q l w) (ht : n + m = t) (hbytes : t ≤ 140737488355328) (hbase : base ≤ w.heap.size)
    (h : ∀ p cap w', w'.ownsRow base 5 1 (.slice p t cap) t (byteCells (xs ++ l)) → w.grownBy w' v.ownBlock → wpList Tryd.prog ops Q rest (a.put o.dst (.slice p t cap)) w') : wpList Tryd.prog ops Q (o :: rest) a w := by
  obtain ⟨i0, hi, hz0, hz1, hz2⟩ := info_parts infoByte
  subst hl ht
  have form : ∀ {w' : World} {v' : Value}, w'.ownsRow base 5 1 v' (n + l.length) (byteCells (xs ++ l)) → ∃ p cap, v' = .slice p (n + l.length) cap := by
    rintro w' v' h'
    rcases h'.2 with ⟨rfl, h0⟩ | ⟨g, cap, cur, rfl, _⟩
    · rw [h0]; exact ⟨none, 0, rfl⟩
    · exact ⟨_, cap, rfl⟩
  cases q with
  | none =>
    obtain ⟨h0, rfl⟩ := hnil rfl
    have hl0 : l = [] := List.eq_nil_of_length_eq_zero h0
    subst hl0
    refine wpList_append_own_none hgd s x _ ho base 5 i0 1 Tryd.underlying28 hi v n _ hs hown hx ?_
    have hown2 : w.ownsRow base 5 1 v (n + ([] : List UInt8).length) (byteCells (xs ++ [])) := by rw [List.append_nil]; exact hown
    obtain ⟨p, cap, rfl⟩ := form hown2
    exact h p cap w hown2 ⟨rfl, rfl, rfl, Nat.le_refl _, fun _ _ _ => rfl⟩
  | some ad =>
    refine wpList_append_own w hgd s x _ ho base 5 i0 (.int .u8 0) 1 1 Tryd.underlying28 hi hz0 hz1 hz2 rfl (by decide) v n (byteCells xs) hs hown ad l.length c (byteCells l) hx (by rw [byteCells_length, Nat.mul_one]) ?_ ?_ (by unfold maxLen; omega) (by omega) hbase ?_
    · intro j u hj
      have hj' : j < l.length := by
        have := (List.getElem?_eq_some_iff.1 hj).1
        rwa [byteCells_length] at this
      obtain ⟨pb, off, hp, _, _, hc⟩ := hB (by intro e; rw [e] at hj'; simp at hj')
      cases hp
      rw [Addr.add_lit, hc j hj']
      simp [byteCells, List.getElem?_eq_getElem hj'] at hj
      rw [hj]
    · intro u hu
      simp only [byteCells, List.mem_map] at hu
      obtain ⟨y, _, rfl⟩ := hu
      rfl
    · intro v' w' hown' hg _
      rw [← byteCells_append] at hown'
      obtain ⟨p, cap, rfl⟩ := form hown'
      exact h p cap w' hown' hg

/-- A row of bytes of the call's own, as a row that reads. -/
theorem owns_bytes {w : World} {B n : Nat} {v : Value} {L : List UInt8} (h : w.ownsRow B 5 1 v n (byteCells L)) (hn : L.length = n) :
    ∃ p cap, v = .slice p n cap ∧ (p = none → L = []) ∧ Bytes w.heap.size w.heap.size p L w := by
  subst hn
  have hc := fun g hg => h.cells (g := g) hg
  rcases h.2 with ⟨rfl, h0⟩ | ⟨g, cap, cur, rfl, hB, hg, _⟩
  · have : L = [] := List.eq_nil_of_length_eq_zero (by simpa using h0)
    subst this
    exact ⟨none, 0, rfl, fun _ => rfl, fun h => absurd rfl h⟩
  · have hlt := (Array.getElem?_eq_some_iff.1 hg).1
    refine ⟨_, cap, rfl, fun h => (by cases h), fun _ => ⟨g, 0, rfl, hlt, by omega, fun j hj => ?_⟩⟩
    have := hc g rfl j (.int .u8 L[j].toNat) (by simp [byteCells, List.getElem?_eq_getElem hj])
    rw [Nat.zero_add]
    rw [Addr.add_lit, Nat.zero_add] at this
    exact this

/-- A slice of bytes that came in as an element. -/
theorem bytes_cell {H : Type} {enc : TypeId × Value → H} {W : World} {base : Nat} {sp : Nat → Bool} {held : Bool} {v : Value} {n : Nat} {y : DataW H × List MemPlace}
    (h : DataW.trod enc Tryd.prog W base sp held n 28 [v] = some y) :
    ∃ (q : Option Addr) (cap : Nat) (l : List UInt8), v = .slice q l.length cap ∧ (q = none → l = [] ∧ cap = 0) ∧ Bytes W.heap.size W.heap.size q l W ∧ (y.1 = .nil ∧ l = [] ∨ ∃ es sp, y.1 = .slice es sp ∧ es.length = l.length) := by
  rcases open_ints Tryd.underlying28 Tryd.underlying5 cellsByte h with ⟨hcs, hx⟩ | ⟨a, len', cap', zs, hcs, _, hl, hm, hz, hx, hcell, hwz⟩
  · simp only [List.cons.injEq, and_true] at hcs
    subst hcs hx
    exact ⟨none, 0, [], rfl, fun _ => ⟨rfl, rfl⟩, fun h => absurd rfl h, .inl ⟨rfl, rfl⟩⟩
  · simp only [List.cons.injEq, and_true] at hcs
    subst hcs hx
    have hle : len' ≤ zs.length := by rw [hz]; split <;> omega
    have hlen : ((zs.take len').map fun n => UInt8.ofNat n.toNat).length = len' := by simp; omega
    refine ⟨some a, cap', (zs.take len').map fun n => UInt8.ofNat n.toNat, by rw [hlen], fun h => (by cases h), fun hne => ?_, .inr ⟨_, _, rfl, by rw [hlen]; simp [lits]; omega⟩⟩
    have h0 : 0 < len' := by
      rcases Nat.eq_zero_or_pos len' with h | h
      · subst h; simp at hne
      · exact h
    obtain ⟨ab, ao, spot⟩ := a
    have hspot : spot = none := by simpa [Addr.add] using World.cell?_spot (hcell 0 (by omega))
    subst hspot
    have hblk : ab < W.heap.size := by
      have hc := hcell 0 (by omega)
      rw [Addr.add_lit] at hc
      exact World.block_lt_of_cell? _ _ hc
    refine ⟨ab, ao, rfl, hblk, by omega, fun j hj => ?_⟩
    rw [hlen] at hj
    have hc := hcell j (by omega)
    rw [Addr.add_lit] at hc
    rw [hc]
    have e : zs.getD j 0 = zs[j]'(by omega) := by simp [List.getD, List.getElem?_eq_getElem (show j < zs.length by omega)]
    have hb := hwz (zs[j]'(by omega)) (List.getElem_mem _)
    simp only [List.getElem_map, List.getElem_take, e]
    simp [Lit.wf, IntKind.min, IntKind.max, IntKind.signed, IntKind.bits] at hb
    congr 2
    simp only [UInt8.toNat_ofNat']
    omega

theorem mem_weightsAll {H : Type} {P : Program} {e : TypeId} {x : Nat} : ∀ {l : List (DataW H)} {d : DataW H}, d ∈ l → x ∈ d.weights P e → x ∈ DataW.weightsAll P e l
  | [], _, h, _ => by cases h
  | a :: l, d, h, hx => by
    simp only [DataW.weightsAll, List.mem_append]
    rcases List.mem_cons.1 h with rfl | h
    · exact .inl hx
    · exact .inr (mem_weightsAll h hx)

set_option maxRecDepth 100000 in
/-- A slice of slices of bytes that came in. -/
theorem rows_open {H : Type} {enc : TypeId × Value → H} {W : World} {base b0 : Nat} {sp : Nat → Bool} {held : Bool} {v : Value} {d : DataW H} {p : List MemPlace} {ts : List TypeId} {ds : List (DataW H)} {j : Nat}
    (hv : Value.okWide Tryd.prog W .any b0 33 v) (h : DataW.Trod enc Tryd.prog W base sp held 33 v d p)
    (hsz : (DataW.weightsEach Tryd.prog ts ds).all (· ≤ reachBytes) = true) (ht : ts[j]? = some 33) (hd : ds[j]? = some d) :
    ∃ (q : Option Addr) (N cap : Nat) (P : Nat → Option Addr) (C : Nat → Nat) (L : Nat → List UInt8), v = .slice q N cap ∧ N ≤ 140737488351232 ∧ Rowed W.heap.size q N P C L W := by
  obtain ⟨a1, len, cap, rfl⟩ := okWide_slice Tryd.underlying33 hv
  obtain ⟨fuel, hf⟩ := h
  have hc1 : Tryd.prog.cellsOf 28 = 1 := by kernel_rfl
  have hb24 : Tryd.prog.bytesOf 28 = 24 := by kernel_rfl
  have hmem := fun x hx => List.all_eq_true.1 hsz x (DataW.weights_mem_each ht hd x hx)
  rcases Go.Deep.open_slice Tryd.underlying33 hf with ⟨hcs, hx⟩ | ⟨a, len', cap', m, n, D, Pl, hcs, _, hl, hm, hmm, hx, hel⟩
  · simp [Value.cells] at hcs
    obtain ⟨rfl, rfl, rfl⟩ := hcs
    exact ⟨none, 0, 0, fun _ => none, fun _ => 0, fun _ => [], rfl, Nat.zero_le _, fun h => absurd h (by omega), fun i hi => absurd hi (by omega)⟩
  · simp [Value.cells] at hcs
    obtain ⟨rfl, rfl, rfl⟩ := hcs
    simp only [Prod.mk.injEq] at hx
    obtain ⟨rfl, _⟩ := hx
    rw [hc1] at hel
    have hlm : len ≤ m := by rw [hmm]; split <;> omega
    have hN : len ≤ 140737488351232 := by
      have h2 := hmem ((((List.range len).map D).length + ((List.range (m - len)).map fun j => D (len + j)).length) * Tryd.prog.bytesOf 28) (by simp [DataW.weights, Tryd.underlying33])
      have h3 : (((List.range len).map D).length + ((List.range (m - len)).map fun j => D (len + j)).length) * Tryd.prog.bytesOf 28 ≤ reachBytes := by simpa using h2
      rw [hb24] at h3
      simp only [List.length_map, List.length_range, reachBytes] at h3
      omega
    have hone : ∀ i, ∃ t : Option Addr × Nat × List UInt8, i < len → W.cell? (a.add i) = some (.slice t.1 t.2.2.length t.2.1) ∧ (t.1 = none → t.2.2 = [] ∧ t.2.1 = 0) ∧ Bytes W.heap.size W.heap.size t.1 t.2.2 W ∧ t.2.2.length ≤ 140737488351232 := by
      intro i
      by_cases hi : i < len
      · obtain ⟨cs', hc, htr⟩ := hel i (by omega)
        obtain ⟨_, hcl, hat⟩ := World.cells?_some hc
        have hv0 : cs' = [cs'[0]'(by omega)] := by
          match cs', hcl with
          | [x], _ => rfl
        rw [hv0] at htr
        obtain ⟨q, c, l, hq, hn, hB, hs⟩ := bytes_cell htr
        have hcell := hat 0 (by omega)
        refine ⟨(q, c, l), fun _ => ⟨?_, hn, hB, ?_⟩⟩
        · have e : (a.add (i * 1)).add 0 = a.add i := by rw [Nat.mul_one, Go.Deep.add_add, Nat.add_zero]
          rw [e] at hcell
          rw [hcell, ← hq]
          exact List.getElem?_eq_getElem (by omega)
        · rcases hs with ⟨_, rfl⟩ | ⟨es, sp', hy, he⟩
          · exact Nat.zero_le _
          · have hm1 : D i ∈ (List.range len).map D := List.mem_map.2 ⟨i, List.mem_range.2 hi, rfl⟩
            have hy' : D i = .slice es sp' := hy
            have h2 := hmem ((es.length + sp'.length) * Tryd.prog.bytesOf 5) (by
              simp only [DataW.weights, Tryd.underlying33]
              refine List.mem_cons_of_mem _ (List.mem_append_left _ (mem_weightsAll hm1 ?_))
              rw [hy']
              simp [DataW.weights, Tryd.underlying28])
            have h3 : (es.length + sp'.length) * Tryd.prog.bytesOf 5 ≤ reachBytes := by simpa using h2
            rw [bytesByte] at h3
            simp only [reachBytes] at h3
            show l.length ≤ _
            omega
      · exact ⟨(none, 0, []), fun h => absurd h hi⟩
    obtain ⟨f, hf2⟩ := Classical.skolem.1 hone
    refine ⟨some a, len, cap, fun i => (f i).1, fun i => (f i).2.1, fun i => (f i).2.2, rfl, hN, fun h0 => ?_, fun i hi => ⟨(hf2 i hi).2.1, (hf2 i hi).2.2.1, (hf2 i hi).2.2.2⟩⟩
    obtain ⟨ab, ao, spot⟩ := a
    have hspot : spot = none := by simpa [Addr.add] using World.cell?_spot (hf2 0 h0).1
    subst hspot
    have hblk : ab < W.heap.size := by
      have hc := (hf2 0 h0).1
      rw [Addr.add_lit] at hc
      exact World.block_lt_of_cell? _ _ hc
    refine ⟨ab, ao, rfl, hblk, fun i hi => ?_⟩
    have hc := (hf2 i hi).1
    rw [Addr.add_lit] at hc
    exact hc

end Go.Proofs.YtjjahcidncnogaaDoor
