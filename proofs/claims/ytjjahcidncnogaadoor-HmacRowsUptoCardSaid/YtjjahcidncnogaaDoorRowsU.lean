/- Rows of rows of bytes: how great they are by the bulk of what was read; rows of the call's own, each with marks behind it. -/
import Derived.Test.YtjjahcidncnogaaDoorMacEqL
import Derived.Test.YtjjahcidncnogaaDoorRowsB
import Derived.Test.YtjjahcidncnogaaDoorShaSums0
namespace Go.Proofs.YtjjahcidncnogaaDoor
open Go.ChangeShapes Go.WideShapes Go.ChangeAt Go.RowKit Go.Lib

theorem bulk_pos {H : Type} (d : DataW H) : 1 ≤ Rows.uptoBulk d := by
  cases d with
  | lit x => cases x <;> simp [Rows.uptoBulk]
  | _ => simp [Rows.uptoBulk]
theorem bulkAll_len {H : Type} : ∀ l : List (DataW H), l.length ≤ Rows.uptoBulkAll l
  | [] => by simp [Rows.uptoBulkAll]
  | d :: l => by
    have h1 := bulk_pos d
    have h2 := bulkAll_len l
    simp only [List.length_cons, Rows.uptoBulkAll]
    omega
theorem bulkAll_append {H : Type} : ∀ l m : List (DataW H), Rows.uptoBulkAll (l ++ m) = Rows.uptoBulkAll l + Rows.uptoBulkAll m
  | [], m => by simp [Rows.uptoBulkAll]
  | d :: l, m => by
    have h2 := bulkAll_append l m
    simp only [List.cons_append, Rows.uptoBulkAll, h2]
    omega
theorem bulk_slice {H : Type} (es sp : List (DataW H)) : Rows.uptoBulk (.slice es sp) = Rows.uptoBulkAll es + Rows.uptoBulkAll sp + 1 := by simp [Rows.uptoBulk]
/-- A reading of a row of bytes is as great as the row, and one more. -/
theorem bulk_bytes {H : Type} {d : DataW H} {l : List UInt8} (h : d = .nil ∧ l = [] ∨ ∃ es sp, d = .slice es sp ∧ es.length = l.length) : l.length + 1 ≤ Rows.uptoBulk d := by
  rcases h with ⟨rfl, rfl⟩ | ⟨es, sp, rfl, he⟩
  · exact bulk_pos _
  · have := bulkAll_len es
    rw [bulk_slice]
    omega

/-- A slice of bytes that came in as an element: it has room for what it holds. -/
theorem bytes_cellU {H : Type} {enc : TypeId × Value → H} {W : World} {base : Nat} {sp : Nat → Bool} {held : Bool} {v : Value} {n : Nat} {y : DataW H × List MemPlace}
    (h : DataW.trod enc Tryd.prog W base sp held n 28 [v] = some y) :
    ∃ (q : Option Addr) (cap : Nat) (l : List UInt8), v = .slice q l.length cap ∧ (q = none → l = [] ∧ cap = 0) ∧ Bytes W.heap.size W.heap.size q l W ∧ (y.1 = .nil ∧ l = [] ∨ ∃ es sp, y.1 = .slice es sp ∧ es.length = l.length) ∧ l.length ≤ cap := by
  obtain ⟨q, cap, l, hv, hn, hB, hs⟩ := bytes_cell h
  refine ⟨q, cap, l, hv, hn, hB, hs, ?_⟩
  rcases open_ints Tryd.underlying28 Tryd.underlying5 cellsByte h with ⟨hcs, hx⟩ | ⟨a, len', cap', zs, hcs, _, hl, hm, hz, hx, hcell, hwz⟩
  · rw [hv] at hcs
    simp only [List.cons.injEq, and_true, Value.slice.injEq] at hcs
    omega
  · rw [hv] at hcs
    simp only [List.cons.injEq, and_true, Value.slice.injEq] at hcs
    omega

set_option maxRecDepth 100000 in
/-- A slice of slices of bytes that came in, with how great its reading is. -/
theorem rows_openU {H : Type} {enc : TypeId × Value → H} {W : World} {base b0 : Nat} {sp : Nat → Bool} {held : Bool} {v : Value} {d : DataW H} {p : List MemPlace}
    (hv : Value.okWide Tryd.prog W .any b0 33 v) (h : DataW.Trod enc Tryd.prog W base sp held 33 v d p) (hbulk : Rows.uptoBulk d ≤ 1048576) :
    ∃ (q : Option Addr) (N cap : Nat) (P : Nat → Option Addr) (C : Nat → Nat) (L : Nat → List UInt8), v = .slice q N cap ∧ (q = none → N = 0 ∧ cap = 0) ∧ N ≤ cap ∧ (∀ i, i < N → P i = none → L i = [] ∧ C i = 0) ∧ Parts W.heap.size q N P C L W ∧ (cat L N).length + N ≤ 1048576 := by
  obtain ⟨a1, len, cap, rfl⟩ := okWide_slice Tryd.underlying33 hv
  obtain ⟨fuel, hf⟩ := h
  have hc1 : Tryd.prog.cellsOf 28 = 1 := by kernel_rfl
  rcases Go.Deep.open_slice Tryd.underlying33 hf with ⟨hcs, hx⟩ | ⟨a, len', cap', m, n, D, Pl, hcs, _, hl, hm, hmm, hx, hel⟩
  · simp [Value.cells] at hcs
    obtain ⟨rfl, rfl, rfl⟩ := hcs
    exact ⟨none, 0, 0, fun _ => none, fun _ => 0, fun _ => [], rfl, fun _ => ⟨rfl, rfl⟩, Nat.le_refl _, fun i hi => absurd hi (by omega), ⟨fun h => absurd h (by omega), fun i hi => absurd hi (by omega)⟩, by simp [cat]⟩
  · simp [Value.cells] at hcs
    obtain ⟨rfl, rfl, rfl⟩ := hcs
    simp only [Prod.mk.injEq] at hx
    obtain ⟨rfl, _⟩ := hx
    rw [hc1] at hel
    have hlm : len ≤ m := by rw [hmm]; split <;> omega
    have hone : ∀ i, ∃ t : Option Addr × Nat × List UInt8, i < len → W.cell? (a.add i) = some (.slice t.1 t.2.2.length t.2.1) ∧ (t.1 = none → t.2.2 = [] ∧ t.2.1 = 0) ∧ Bytes W.heap.size W.heap.size t.1 t.2.2 W ∧ t.2.2.length ≤ t.2.1 ∧ t.2.2.length + 1 ≤ Rows.uptoBulk (D i) := by
      intro i
      by_cases hi : i < len
      · obtain ⟨cs', hc, htr⟩ := hel i (by omega)
        obtain ⟨_, hcl, hat⟩ := World.cells?_some hc
        have hv0 : cs' = [cs'[0]'(by omega)] := by
          match cs', hcl with
          | [x], _ => rfl
        rw [hv0] at htr
        obtain ⟨q, c, l, hq, hn, hB, hs, hlc⟩ := bytes_cellU htr
        have hcell := hat 0 (by omega)
        refine ⟨(q, c, l), fun _ => ⟨?_, hn, hB, hlc, bulk_bytes hs⟩⟩
        have e : (a.add (i * 1)).add 0 = a.add i := by rw [Nat.mul_one, Go.Deep.add_add, Nat.add_zero]
        rw [e] at hcell
        rw [hcell, ← hq]
        exact List.getElem?_eq_getElem (by omega)
      · exact ⟨(none, 0, []), fun h => absurd h hi⟩
    obtain ⟨f, hf2⟩ := Classical.skolem.1 hone
    have hsum : ∀ k, k ≤ len → (cat (fun i => (f i).2.2) k).length + k ≤ Rows.uptoBulkAll ((List.range k).map D) := by
      intro k
      induction k with
      | zero => intro _; simp [cat]
      | succ k ih =>
        intro hk
        have h1 := ih (by omega)
        have h2 := (hf2 k (by omega)).2.2.2.2
        rw [List.range_succ, List.map_append, bulkAll_append]
        simp only [cat, List.length_append, List.map_cons, List.map_nil, Rows.uptoBulkAll]
        omega
    have htot := hsum len (Nat.le_refl _)
    rw [bulk_slice] at hbulk
    have hel1 : ∀ i, i < len → ((f i).2.2).length ≤ 1048576 := by
      intro i hi
      have h1 := hsum (i + 1) (by omega)
      have h3 : ∀ k, i + 1 ≤ k → k ≤ len → Rows.uptoBulkAll ((List.range (i + 1)).map D) ≤ Rows.uptoBulkAll ((List.range k).map D) := by
        intro k
        induction k with
        | zero => intro h; omega
        | succ k ih =>
          intro h hk
          by_cases e : i + 1 = k + 1
          · rw [e]; exact Nat.le_refl _
          · have := ih (by omega) (by omega)
            rw [List.range_succ (n := k), List.map_append, bulkAll_append]
            omega
      have h4 := h3 len (by omega) (Nat.le_refl _)
      simp only [cat, List.length_append] at h1
      omega
    refine ⟨some a, len, cap, fun i => (f i).1, fun i => (f i).2.1, fun i => (f i).2.2, rfl, (fun h => by cases h), hl, fun i hi => (hf2 i hi).2.1, ⟨fun h0 => ?_, fun i hi => ⟨(hf2 i hi).2.2.1, (hf2 i hi).2.2.2.1, (by have := hel1 i hi; show (f i).2.2.length ≤ _; omega)⟩⟩, (by omega)⟩
    obtain ⟨ab, ao, spot⟩ := a
    have hspot : spot = none := by simpa [Addr.add] using World.cell?_spot (hf2 0 h0).1
    subst hspot
    have hblk : ab < W.heap.size := by
      have hc := (hf2 0 h0).1
      rw [Addr.add_lit] at hc
      exact World.block_lt_of_cell? _ _ hc
    refine ⟨ab, ao, rfl, hblk, fun i hi => ?_⟩
    have hc := (hf2 i hi).1
    rw [Addr.add_lit] at hc
    exact hc

theorem infoRow : (Tryd.prog.info? 28).map (fun i => (i.zero, i.size, i.bytes)) = some (some (.slice none 0 0), 1, 24) := by kernel_rfl
theorem ownsR_slice {w : World} {B n : Nat} {v : Value} {xs : List Value} {e : TypeId} (h : w.ownsRow B e 1 v n xs) : ∃ q c, v = .slice q n c := by
  rcases h.2 with hn | ⟨g, cap, cur, hv, _⟩
  · exact ⟨none, 0, by rw [hn.1, hn.2]⟩
  · exact ⟨_, cap, hv⟩
/-- append of one row to a row of rows of the call's own. -/
theorem wpList_append_row1 {w : World} {ops : Array Oper} {rest : List Oper} {o : Oper} {a : Act} {Q : Exit → Act → World → Prop} (hgd : o.guard = none) (s x : Operand)
    (ho : o.op = .call { callee := .builtin .append, args := #[s, x], argTypes := #[33, 33] }) (base : Nat) (v : Value) (n : Nat) (xs : List Value) (hs : a.eval s = v) (hown : w.ownsRow base 28 1 v n xs)
    (g c : Nat) (y : Value) (hx : a.eval x = .slice (some ⟨g, 0, none⟩) 1 c) (hy : w.cell? ⟨g, 0, none⟩ = some y) (h1 : y.oneCell' = true) (t : Nat) (ht : n + 1 = t) (hbytes : t ≤ 5000000000000) (hbase : base ≤ w.heap.size)
    (h : ∀ p cap w', w'.ownsRow base 28 1 (.slice p t cap) t (xs ++ [y]) → w.grownBy w' v.ownBlock → wpList Tryd.prog ops Q rest (a.put o.dst (.slice p t cap)) w') : wpList Tryd.prog ops Q (o :: rest) a w := by
  obtain ⟨i0, hi, hz0, hz1, hz2⟩ := info_parts infoRow
  subst ht
  refine wpList_append_own w hgd s x _ ho base 28 i0 (.slice none 0 0) 1 24 Tryd.underlying33 hi hz0 hz1 hz2 rfl (by decide) v n xs hs hown ⟨g, 0, none⟩ 1 c [y] hx rfl ?_ ?_ (by unfold maxLen; omega) (by omega) hbase ?_
  · intro j u hj
    obtain rfl : j = 0 := by have := (List.getElem?_eq_some_iff.1 hj).1; simpa using this
    obtain rfl : y = u := by simpa using hj
    rw [Addr.add_lit]
    exact hy
  · intro u hu
    obtain rfl : u = y := by simpa using hu
    exact h1
  · intro v' w' hown' hg _
    obtain ⟨p, cap, rfl⟩ := ownsR_slice hown'
    exact h p cap w' hown' hg

/-- A row of bytes in a block of its own, with others behind it in its spare room. -/
structure Spare (w : World) (g cap : Nat) (l m : List UInt8) : Prop where
  fit : l.length + m.length ≤ cap
  block : ∃ cur, w.heap[g]? = some (.cells cur 5 (0, 0))
  cells : ∀ j, (hj : j < (l ++ m).length) → w.cell? ⟨g, j, none⟩ = some (.int .u8 ((l ++ m)[j].toNat : Nat))
theorem Spare.lt {w : World} {g cap : Nat} {l m : List UInt8} (h : Spare w g cap l m) : g < w.heap.size := h.block.elim fun _ hc => (Array.getElem?_eq_some_iff.1 hc).1
theorem Spare.stays {w w' : World} {g cap : Nat} {l m : List UInt8} (h : Spare w g cap l m) (hb : w'.heap[g]? = w.heap[g]?) : Spare w' g cap l m := by
  obtain ⟨cur, hc⟩ := h.block
  exact ⟨h.fit, ⟨cur, hb.trans hc⟩, fun j hj => by rw [cell_of_heap (hb.trans hc), ← cell_of_heap hc]; exact h.cells j hj⟩
theorem Spare.below {w w' : World} {g cap : Nat} {l m : List UInt8} (h : Spare w g cap l m) (hb : Below w.heap.size w w') : Spare w' g cap l m := h.stays (hb.block g h.lt)
theorem Spare.bytes {w : World} {g cap : Nat} {l m : List UInt8} (h : Spare w g cap l m) : Bytes w.heap.size w.heap.size (some ⟨g, 0, none⟩) l w := fun _ => by
  have hlt := h.lt
  refine ⟨g, 0, rfl, hlt, by omega, fun j hj => ?_⟩
  rw [Nat.zero_add, h.cells j (by rw [List.length_append]; omega)]
  congr 3
  rw [List.getElem_append_left hj]
theorem Spare.of_lent {w : World} {g cap : Nat} {l : List UInt8} (h : Lent w g cap l) : Spare w g cap l (List.replicate 70 165) :=
  ⟨by rw [List.length_replicate]; exact h.fit, h.block, h.cells⟩
theorem Spare.lent {w : World} {g cap : Nat} {l : List UInt8} (h : Spare w g cap l (List.replicate 70 165)) : Lent w g cap l :=
  ⟨by have := h.fit; rw [List.length_replicate] at this; exact this, h.block, h.cells⟩
/-- Rows of the call's own, each with marks behind it. -/
def Spares (B : Nat) (m : List UInt8) (L : Nat → List UInt8) (xs : List Value) (w : World) : Prop :=
  ∀ j, j < xs.length → ∃ g k, xs[j]? = some (.slice (some ⟨g, 0, none⟩) (L j).length k) ∧ B ≤ g ∧ Spare w g k (L j) m
theorem Spares.below {B : Nat} {m : List UInt8} {L : Nat → List UInt8} {xs : List Value} {w w' : World} (h : Spares B m L xs w) (hb : Below w.heap.size w w') : Spares B m L xs w' := fun j hj =>
  let ⟨g, k, h1, h2, h3⟩ := h j hj
  ⟨g, k, h1, h2, h3.below hb⟩
/-- What a row of rows is written into is none of the rows. -/
theorem Spares.grown {B base : Nat} {m : List UInt8} {L : Nat → List UInt8} {xs : List Value} {w w' : World} {v : Value} {n : Nat} {ys : List Value} (h : Spares B m L xs w) (ho : w.ownsRow base 28 1 v n ys) (hg : w.grownBy w' v.ownBlock) : Spares B m L xs w' := fun j hj => by
  obtain ⟨g, k, h1, h2, h3⟩ := h j hj
  refine ⟨g, k, h1, h2, h3.stays (hg.block g h3.lt ?_)⟩
  intro e
  rcases ho.2 with ⟨rfl, _⟩ | ⟨g2, cap, cur, rfl, _, hh, _⟩
  · cases e
  · obtain ⟨cur2, hc⟩ := h3.block
    simp only [Value.ownBlock, Option.some.injEq] at e
    subst e
    rw [hc] at hh
    simp only [Option.some.injEq, Obj.cells.injEq] at hh
    exact absurd hh.2.1 (by decide)
theorem Spares.snoc {B : Nat} {m : List UInt8} {L : Nat → List UInt8} {xs : List Value} {w : World} (h : Spares B m L xs w) {g k : Nat} (hB : B ≤ g) (hs : Spare w g k (L xs.length) m) : Spares B m L (xs ++ [.slice (some ⟨g, 0, none⟩) (L xs.length).length k]) w := fun j hj => by
  by_cases e : j < xs.length
  · obtain ⟨g', k', h1, h2, h3⟩ := h j e
    exact ⟨g', k', by rw [List.getElem?_append_left e]; exact h1, h2, h3⟩
  · rw [List.length_append, List.length_singleton] at hj
    obtain rfl : j = xs.length := by omega
    exact ⟨g, k, by simp, hB, hs⟩
/-- Such rows, in a row of the call's own, as parts. -/
theorem Spares.parts {B base : Nat} {m : List UInt8} {L : Nat → List UInt8} {xs : List Value} {w : World} {q : Option Addr} {N c : Nat} (h : Spares B m L xs w) (ho : w.ownsRow base 28 1 (.slice q N c) N xs) (hx : xs.length = N) (hL : ∀ i, i < N → (L i).length ≤ 140737488351232) :
    ∃ P C, Parts w.heap.size q N P C L w ∧ (∀ i, i < N → P i ≠ none) ∧ ∀ i, i < N → xs[i]? = some (.slice (P i) (L i).length (C i)) := by
  have hone : ∀ i, ∃ t : Nat × Nat, i < N → xs[i]? = some (.slice (some ⟨t.1, 0, none⟩) (L i).length t.2) ∧ Spare w t.1 t.2 (L i) m := fun i => by
    by_cases hi : i < N
    · obtain ⟨g, k, h1, _, h3⟩ := h i (by omega)
      exact ⟨(g, k), fun _ => ⟨h1, h3⟩⟩
    · exact ⟨(0, 0), fun h => absurd h hi⟩
  obtain ⟨f, hf⟩ := Classical.skolem.1 hone
  refine ⟨fun i => some ⟨(f i).1, 0, none⟩, fun i => (f i).2, ⟨fun h0 => ?_, fun i hi => ⟨(hf i hi).2.bytes, (by have := (hf i hi).2.fit; show (L i).length ≤ (f i).2; omega), hL i hi⟩⟩, (fun i _ e => by cases e), fun i hi => (hf i hi).1⟩
  have hc := fun g hg => ho.cells (g := g) hg
  rcases ho.2 with ⟨hh, hn0⟩ | ⟨g, cap, cur, hv, _, hg, _⟩
  · omega
  · simp only [Value.slice.injEq] at hv
    obtain ⟨rfl, -, rfl⟩ := hv
    refine ⟨g, 0, rfl, (Array.getElem?_eq_some_iff.1 hg).1, fun i hi => ?_⟩
    have h2 := hc g rfl i _ (hf i hi).1
    rwa [Addr.add_lit] at h2
end Go.Proofs.YtjjahcidncnogaaDoor
