/- slices.Clone at bytes: its contract; how memory stands in ShaFresh. -/
import Derived.Test.YtjjahcidncnogaaDoorShaTakenL
import Derived.Lib.SliceRun
import Derived.Laws.OwnMore
import Derived.Laws.BitsAllLaws
namespace Go.Proofs.YtjjahcidncnogaaDoor
open Go.ChangeShapes Go.WideShapes Go.ChangeAt Go.RowKit Go.Lib

set_option maxRecDepth 100000 in
set_option maxHeartbeats 4000000 in
theorem sclone_any (a : Option Addr) (c : Nat) (l : List UInt8) (w : World) (hn : a = none → l = [] ∧ c = 0) (hB : Bytes w.heap.size w.heap.size a l w) (hm : l.length ≤ 140737488351232) :
    Calls Tryd.prog 69 #[.slice a l.length c] w fun e w' => ∃ q k, e = .returned (.slice q l.length k) ∧ w'.ownsRow w.heap.size 5 1 (.slice q l.length k) l.length (Go.Lib.byteCells l) ∧ Below w.heap.size w w' := by
  cases a with
  | none =>
    obtain ⟨rfl, rfl⟩ := hn rfl
    have heq : ∀ w, (binOp .eql 28 (.slice none 0 0) (.slice none 0 0)).run Tryd.prog w = .ok (.bool true) w := fun w => Lib.run_eql_slice_nil w _ _ _ _ _ _ _ Tryd.underlying28
    go_enter Tryd.func69, Tryd.ntmps69
    go_wp2_with fail
    go_ret
    exact ⟨none, 0, rfl, World.ownsRow_nil _ _ _ _, Below.refl _ _⟩
  | some ad =>
    have HG : Hid (Below w.heap.size w (w.alloc (.cells #[] 5))) := Lib.hid ((Below.refl _ w).alloc (Nat.le_refl _) _)
    have HO : Hid ((w.alloc (.cells #[] 5)).ownsRow w.heap.size 5 1 (.slice (some ⟨w.heap.size, 0, none⟩) 0 0) 0 (Go.Lib.byteCells [])) := Lib.hid (by
      exact ⟨rfl, .inr ⟨w.heap.size, 0, #[], rfl, Nat.le_refl _, (MapKept.heap_alloc w _).1, Nat.le_refl _, by decide, rfl, rfl⟩⟩)
    have HBy : Hid (Bytes (w.alloc (.cells #[] 5)).heap.size (w.alloc (.cells #[] 5)).heap.size (some ad) l (w.alloc (.cells #[] 5))) := Lib.hid ((hB.keep HG.out).at HG.out.size HG.out.size)
    have HM := Lib.hid hm
    obtain ⟨n, hnn⟩ : ∃ n, l.length = n := ⟨_, rfl⟩
    rw [hnn] at HM ⊢
    have HL := Lib.hid hnn
    have heq : ∀ w, (binOp .eql 28 (.slice (some ad) n c) (.slice none 0 0)).run Tryd.prog w = .ok (.bool false) w := fun w => Lib.run_eql_slice_nil w _ _ _ _ _ _ _ Tryd.underlying28
    clear hm hB hn hnn
    go_enter Tryd.func69, Tryd.ntmps69
    go_wp2_with (refine wpList_append_piece rfl (.tmp 5) (.tmp 6) rfl w.heap.size _ 0 [] rfl HO.out (some ad) n c n l rfl HL.out (fun h => by cases h) _ _ HBy.out (by omega) (by have := HM.out; omega) HG.out.size ?_)
    intro p cap w2 ho2 hg2
    have HO2 := Lib.hid ho2
    have HG2 : Hid (Below w.heap.size w w2) := Lib.hid (HG.out.grown hg2 HG.out.size (fun k hk => by simp [Value.ownBlock] at hk; omega))
    clear ho2 hg2
    go_wp2_with fail
    go_ret
    exact ⟨p, cap, rfl, HO2.out, HG2.out⟩

/-- b[:k] of a row of the call's own. -/
theorem slice_cut (g n cap k : Nat) (hk : k ≤ cap) (h0 : 0 < cap) (w : World) :
    (Instr.sliceAt 28 (.slice (some ⟨g, 0, none⟩) n cap) none (some (.int .i64 (k : Int))) none).run Tryd.prog w = .ok (.slice (some ⟨g, 0, none⟩) k cap) w := by
  rw [run_sliceAt_slice w 28 _ _ _ _ sliceElem, run_slice_h w 28 (some ⟨g, 0, none⟩) n cap sliceElem .i64 (k : Int) (by omega) (by omega), sliceSize]
  simp only [Result.andThen, sliced, Int.toNat_natCast, Nat.sub_zero]
  rw [if_neg (by omega)]
  simp [Addr.add]
/-- What the literal's block holds. -/
theorem lit_bytes (w : World) (L : List UInt8) : Bytes (w.alloc (.cells (Go.Lib.byteCells L).toArray 5)).heap.size (w.alloc (.cells (Go.Lib.byteCells L).toArray 5)).heap.size (some ⟨w.heap.size, 0, none⟩) L (w.alloc (.cells (Go.Lib.byteCells L).toArray 5)) :=
  whole_bytes (show Whole w.heap.size L _ from (MapKept.heap_alloc _ _).1) (by simp) (by simp)
/-- A row of the call's own that is not empty lies in a block of its own. -/
theorem owns_some {w : World} {B n : Nat} {p : Option Addr} {c : Nat} {L : List UInt8} (h : w.ownsRow B 5 1 (.slice p n c) n (Go.Lib.byteCells L)) (_hl : L.length = n) (h0 : 0 < n) :
    ∃ g cur, p = some ⟨g, 0, none⟩ ∧ B ≤ g ∧ g < w.heap.size ∧ n ≤ c ∧ w.heap[g]? = some (.cells cur 5 (0, 0)) ∧ ∀ j, (hj : j < L.length) → w.cell? ⟨g, j, none⟩ = some (.int .u8 L[j].toNat) := by
  have hc := fun g hg => h.cells (g := g) hg
  rcases h.2 with ⟨hh, hn⟩ | ⟨g, cap, cur, hv, hB, hg, hnc, _⟩
  · omega
  · simp only [Value.slice.injEq] at hv
    obtain ⟨rfl, -, rfl⟩ := hv
    refine ⟨g, cur, rfl, hB, (Array.getElem?_eq_some_iff.1 hg).1, hnc, hg, fun j hj => ?_⟩
    have := hc g rfl j (.int .u8 L[j].toNat) (by simp [Go.Lib.byteCells, List.getElem?_eq_getElem hj])
    rwa [Addr.add_lit, Nat.zero_add] at this
theorem grown_setCells (g : Nat) : ∀ (vs : List Value) (o : Nat) (w : World), w.grownBy (w.setCells g o vs) (some g) := by
  intro vs
  induction vs with
  | nil => intro o w; exact World.grownBy.refl w _
  | cons x vs ih =>
    intro o w
    have h := ih (o + 1) (w.setCell ⟨g, o, none⟩ x)
    refine ⟨h.os, h.tape, h.output, ?_, fun k hk hne => ?_⟩
    · have h2 : w.heap.size ≤ ((w.setCell ⟨g, o, none⟩ x).setCells g (o + 1) vs).heap.size := by
        have := h.size
        simpa using this
      exact h2
    · have h1 := h.block k (by simpa using hk) hne
      have h2 : (w.setCell ⟨g, o, none⟩ x).heap[k]? = w.heap[k]? := Below.heap_setCell _ _ _ _ (by simp only; intro e; exact hne (by rw [e]))
      exact h1.trans h2
/-- clear of a row in a block of its own. -/
theorem clear_any (w : World) (g n c : Nat) (cur : Array Value) (hg : w.heap[g]? = some (.cells cur 5 (0, 0))) (hc : ∀ j, j < n → (w.cell? ⟨g, j, none⟩).isSome = true) :
    ∃ w', (∀ ty, (Builtin.clear_ #[28] ty #[.slice (some ⟨g, 0, none⟩) n c]).run Tryd.prog w = .ok (.tuple #[]) w') ∧ w.grownBy w' (some g) := by
  by_cases h0 : n = 0
  · subst h0
    refine ⟨w, fun ty => ?_, World.grownBy.refl w _⟩
    obtain ⟨i0, hi, hz0, hz1, hz2⟩ := info_parts infoByte
    simp [Builtin.clear_, run_underlying Tryd.underlying28]
  · refine ⟨w.setCells g 0 (List.replicate n (.int .u8 0)), fun ty => ?_, ?_⟩
    · refine Lib.run_clear_slice w 28 5 ty (.int .u8 0) Tryd.underlying28 (fun w => by kernel_rfl) rfl rfl g 0 n c (by omega) (fun j hj => by rw [Nat.zero_add]; exact hc j hj) (fun j _ => frozen_of_heap hg _)
    · exact grown_setCells g _ 0 w

/-- append of bytes to a row of the call's own: where the row lies behind it. -/
theorem run_append_where (w : World) (base : Nat) (ty : TypeId) (v : Value) (n : Nat) (xs : List UInt8) (hown : w.ownsRow base 5 1 v n (Go.Lib.byteCells xs)) (ad : Addr) (c : Nat) (l : List UInt8) (h0 : 0 < l.length)
    (hnews : ∀ j u, (Go.Lib.byteCells l)[j]? = some u → w.cell? (ad.add j) = some u) (hbytes : n + l.length ≤ 140737488355328) (hbase : base ≤ w.heap.size) :
    ∃ p cap w', (Builtin.append_ #[28, 28] ty #[v, .slice (some ad) l.length c]).run Tryd.prog w = .ok (.slice p (n + l.length) cap) w' ∧ w'.ownsRow base 5 1 (.slice p (n + l.length) cap) (n + l.length) (Go.Lib.byteCells (xs ++ l)) ∧
      w.grownBy w' v.ownBlock ∧ ∀ k, (Value.slice p (n + l.length) cap).ownBlock = some k → v.ownBlock = some k ∨ w.heap.size ≤ k := by
  obtain ⟨i0, hi, hz0, hz1, hz2⟩ := info_parts infoByte
  have hl1 : (Go.Lib.byteCells l).length = l.length * 1 := by rw [bc_len, Nat.mul_one]
  have hl1' : (Go.Lib.byteCells l).length = l.length * i0.size := by rw [hz1]; exact hl1
  have hone := byteCells_one l
  obtain ⟨v', w', hr, ho, hg, -⟩ := run_append_own w base 28 ty 5 i0 (.int .u8 0) 1 1 Tryd.underlying28 hi hz0 hz1 hz2 rfl (by decide) v n _ hown ad l.length c _ hl1 hnews hone (by unfold maxLen; omega) (by omega) hbase
  have hcat : Go.Lib.byteCells xs ++ Go.Lib.byteCells l = Go.Lib.byteCells (xs ++ l) := by unfold Go.Lib.byteCells; rw [List.map_append]
  rw [hcat] at ho
  obtain ⟨p, cap, rfl⟩ := owns_slice ho
  refine ⟨p, cap, w', hr, ho, hg, fun k hk => ?_⟩
  rcases hown.2 with ⟨rfl, rfl⟩ | ⟨g, cp, cur, rfl, hbg, hgb, hnc, hcm, hcs, htake⟩
  · have h2 := run_append_nil (P := Tryd.prog) w 28 ty 5 i0 (.int .u8 0) Tryd.underlying28 hi hz0 ad l.length c _ hl1' hnews h0 (by omega) (by rw [hz2]; omega)
    have h3 := hr.symm.trans h2
    simp only [Result.ok.injEq, Value.slice.injEq] at h3
    rw [h3.1.1] at hk
    cases hk
    exact .inr (Nat.le_refl _)
  · by_cases hroom : n + l.length ≤ cp
    · obtain ⟨w2, h2, -, -⟩ := run_append_fits (P := Tryd.prog) w base 28 ty 5 i0 1 Tryd.underlying28 hi hz1 g n cp _ hown ad l.length c _ hl1 hnews hone hroom
      have h3 := hr.symm.trans h2
      simp only [Result.ok.injEq, Value.slice.injEq] at h3
      rw [h3.1.1] at hk
      exact .inl hk
    · have holds : ∀ j u, (Go.Lib.byteCells xs)[j]? = some u → w.cell? ((⟨g, 0, none⟩ : Addr).add j) = some u := hown.cells (g := g) rfl
      have h2 := run_append_grow (P := Tryd.prog) w 28 ty 5 i0 (.int .u8 0) Tryd.underlying28 hi hz0 ⟨g, 0, none⟩ n cp _ (by rw [hz1]; exact hown.1) holds ad l.length c _ hl1' hnews (by omega) (by omega) (growslice_fits (by omega) (by rw [hz2]; omega))
      have h3 := hr.symm.trans h2
      simp only [Result.ok.injEq, Value.slice.injEq] at h3
      rw [h3.1.1] at hk
      cases hk
      exact .inr (Nat.le_refl _)
theorem wpList_append_where {w : World} {ops : Array Oper} {rest : List Oper} {o : Oper} {a : Act} {Q : Exit → Act → World → Prop} (hgd : o.guard = none) (s x : Operand)
    (ho : o.op = .call { callee := .builtin .append, args := #[s, x], argTypes := #[28, 28] }) (base : Nat) (v : Value) (n : Nat) (xs : List UInt8) (hs : a.eval s = v) (hown : w.ownsRow base 5 1 v n (Go.Lib.byteCells xs))
    (ad : Addr) (m c t : Nat) (l : List UInt8) (hx : a.eval x = .slice (some ad) m c) (hl : l.length = m) (h0 : 0 < m) (b K : Nat) (hB : Bytes b K (some ad) l w) (ht : n + m = t) (hbytes : t ≤ 140737488355328) (hbase : base ≤ w.heap.size)
    (h : ∀ p cap w', w'.ownsRow base 5 1 (.slice p t cap) t (Go.Lib.byteCells (xs ++ l)) → w.grownBy w' v.ownBlock → (∀ k, (Value.slice p t cap).ownBlock = some k → v.ownBlock = some k ∨ w.heap.size ≤ k) → wpList Tryd.prog ops Q rest (a.put o.dst (.slice p t cap)) w') : wpList Tryd.prog ops Q (o :: rest) a w := by
  subst hl ht
  obtain ⟨p, cap, w', hr, h1, h2, h3⟩ := run_append_where w base o.type v n xs hown ad c l h0 (fun j u hj => by
    have hj' : j < l.length := by
      have := (List.getElem?_eq_some_iff.1 hj).1
      rwa [bc_len] at this
    obtain ⟨pb, off, hp, _, _, hc⟩ := hB (by intro e; rw [e] at hj'; simp at hj')
    cases hp
    rw [Addr.add_lit, hc j hj']
    simp [Go.Lib.byteCells, List.getElem?_eq_getElem hj'] at hj
    rw [hj]) hbytes hbase
  refine wpList_append_at hgd s x _ _ ho _ _ hs hx _ _ hr ?_
  exact h p cap w' h1 h2 h3

/-- The first of two rows xored, place by place. -/
def flipTo (t : List UInt8) (i : Nat) : List UInt8 := (t.take i).map (· ^^^ 255) ++ t.drop i
theorem flipTo_length (t : List UInt8) (i : Nat) : (flipTo t i).length = t.length := by
  unfold flipTo
  rw [List.length_append, List.length_map, List.length_take, List.length_drop]
  omega
theorem flipTo_get (t : List UInt8) (i : Nat) (h : i < t.length) : (flipTo t i).getD i 0 = t.getD i 0 := by
  unfold flipTo
  rw [List.getD_eq_getElem?_getD, List.getElem?_append_right (by rw [List.length_map, List.length_take]; omega), List.length_map, List.length_take, Nat.min_eq_left (by omega), Nat.sub_self, List.getElem?_drop, Nat.add_zero, ← List.getD_eq_getElem?_getD]
theorem flipTo_step (t : List UInt8) (i : Nat) (h : i < t.length) : (flipTo t i).set i (t.getD i 0 ^^^ 255) = flipTo t (i + 1) := by
  unfold flipTo
  have hl : ((t.take i).map (· ^^^ 255)).length = i := by rw [List.length_map, List.length_take]; omega
  rw [List.set_append_right _ _ (by omega), hl, Nat.sub_self, List.drop_eq_getElem_cons h, List.set_cons_zero, List.take_succ_eq_append_getElem h, List.map_append, List.append_assoc, List.getD_eq_getElem?_getD, List.getElem?_eq_getElem h]
  rfl
theorem flipTo_all (t : List UInt8) (j : Nat) (h : j < t.length) : (flipTo t t.length).getD j 0 = t.getD j 0 ^^^ 255 := by
  unfold flipTo
  rw [List.take_length, List.drop_length, List.append_nil, List.getD_eq_getElem?_getD, List.getElem?_map, List.getElem?_eq_getElem h, List.getD_eq_getElem?_getD, List.getElem?_eq_getElem h]
  rfl

theorem bc_set (L : List UInt8) (i : Nat) (z : UInt8) : (Go.Lib.byteCells L).set i (.int .u8 z.toNat) = Go.Lib.byteCells (L.set i z) := by
  unfold Go.Lib.byteCells
  rw [List.map_set]
theorem flip_val (z : UInt8) : bits .xor .u8 (z.toNat : Int) 255 = ((z ^^^ 255).toNat : Int) := by
  have h := u8_xor_nat z.toNat 255 z.toNat_lt (by decide)
  rw [UInt8.toNat_xor]
  exact h
theorem grown_setCell (w : World) (g i : Nat) (v : Value) : w.grownBy (w.setCell ⟨g, i, none⟩ v) (some g) :=
  ⟨rfl, rfl, rfl, by simp, fun k _ hk => Below.heap_setCell _ _ _ _ (by simp only; intro e; exact hk (by rw [e]))⟩
/-- What stands all the while: the hash, the digest, and the two answers' fields. -/
structure FS (W : World) (B b7 b8 b9 : Nat) (l D : List UInt8) (o1 o2 : Value) (v : World) : Prop where
  tw : Tab W
  g : Below W.heap.size W v
  tk : Took B firstI 0 l v
  want : v.heap[b7]? = some (.cells (Go.Lib.byteCells D).toArray 48 (0, 0))
  m1 : ∃ X : Array Value, v.heap[b8]? = some (.cells X 34 (0, 0)) ∧ X[9]? = some o1
  m2 : ∃ X : Array Value, v.heap[b9]? = some (.cells X 34 (0, 0)) ∧ X[9]? = some o2
  ord : W.heap.size ≤ B ∧ B < b7 ∧ b7 < b8 ∧ b8 < b9 ∧ b9 < v.heap.size
theorem FS.tab {W : World} {B b7 b8 b9 : Nat} {l D : List UInt8} {o1 o2 : Value} {v : World} (h : FS W B b7 b8 b9 l D o1 o2 v) : Tab v := h.tw.below h.g
theorem FS.below {W : World} {B b7 b8 b9 : Nat} {l D : List UInt8} {o1 o2 : Value} {v v' : World} (h : FS W B b7 b8 b9 l D o1 o2 v) (hb : Below v.heap.size v v') : FS W B b7 b8 b9 l D o1 o2 v' := by
  obtain ⟨h1, h2, h3, h4, h5⟩ := h.ord
  refine ⟨h.tw, h.g.trans (hb.mono h.g.size), h.tk.keep hb h.tk.lt, (hb.block _ (by omega)).trans h.want, ?_, ?_, h1, h2, h3, h4, Nat.lt_of_lt_of_le h5 hb.size⟩
  · obtain ⟨X, a, b⟩ := h.m1
    exact ⟨X, (hb.block _ (by omega)).trans a, b⟩
  · obtain ⟨X, a, b⟩ := h.m2
    exact ⟨X, (hb.block _ (by omega)).trans a, b⟩
theorem FS.grown {W : World} {B b7 b8 b9 : Nat} {l D : List UInt8} {o1 o2 : Value} {v v' : World} {row : Option Nat} (h : FS W B b7 b8 b9 l D o1 o2 v) (hg : v.grownBy v' row) (hr : ∀ k, row = some k → B < k ∧ k ≠ b7 ∧ k ≠ b8 ∧ k ≠ b9) : FS W B b7 b8 b9 l D o1 o2 v' := by
  obtain ⟨h1, h2, h3, h4, h5⟩ := h.ord
  have hW := h.g.size
  have blk : ∀ k, k < v.heap.size → (∀ j, row = some j → k ≠ j) → v'.heap[k]? = v.heap[k]? := fun k hk hne => hg.block k hk (fun e => by
    exact hne k e.symm rfl)
  have hgB : Below W.heap.size W v' := h.g.grown hg hW (fun k hk => by have := hr k hk; omega)
  refine ⟨h.tw, hgB, took_copy h.tk (blk B (by omega) (fun j hj => by have := hr j hj; omega)), (blk _ (by omega) (fun j hj => by have := hr j hj; omega)).trans h.want, ?_, ?_, h1, h2, h3, h4, Nat.lt_of_lt_of_le h5 hg.size⟩
  · obtain ⟨X, a, b⟩ := h.m1
    exact ⟨X, (blk _ (by omega) (fun j hj => by have := hr j hj; omega)).trans a, b⟩
  · obtain ⟨X, a, b⟩ := h.m2
    exact ⟨X, (blk _ (by omega) (fun j hj => by have := hr j hj; omega)).trans a, b⟩
/-- Two answers of Mid, stored into new blocks. -/
theorem two_mids (w : World) (Z X1 X2 : Array Value) : ((((w.alloc (.cells Z 34)).alloc (.cells Z 34)).setRow w.heap.size X1).setRow (w.heap.size + 1) X2).heap[w.heap.size]? = some (.cells X1 34 (0, 0)) ∧
    ((((w.alloc (.cells Z 34)).alloc (.cells Z 34)).setRow w.heap.size X1).setRow (w.heap.size + 1) X2).heap[w.heap.size + 1]? = some (.cells X2 34 (0, 0)) ∧
    Below w.heap.size w ((((w.alloc (.cells Z 34)).alloc (.cells Z 34)).setRow w.heap.size X1).setRow (w.heap.size + 1) X2) ∧
    ((((w.alloc (.cells Z 34)).alloc (.cells Z 34)).setRow w.heap.size X1).setRow (w.heap.size + 1) X2).heap.size = w.heap.size + 1 + 1 := by
  have h1 : ((w.alloc (.cells Z 34)).alloc (.cells Z 34)).heap[w.heap.size]? = some (.cells Z 34 (0, 0)) := by
    rw [(MapKept.heap_alloc _ _).2 _ (by simp), (MapKept.heap_alloc _ _).1]
  have h2 : ((w.alloc (.cells Z 34)).alloc (.cells Z 34)).heap[w.heap.size + 1]? = some (.cells Z 34 (0, 0)) := by
    have h := (MapKept.heap_alloc (w.alloc (.cells Z 34)) (.cells Z 34)).1
    simp only [World.size_alloc] at h
    exact h
  have h3 : (((w.alloc (.cells Z 34)).alloc (.cells Z 34)).setRow w.heap.size X1).heap[w.heap.size + 1]? = some (.cells Z 34 (0, 0)) := by
    rw [setRow_other _ _ _ _ (by omega)]; exact h2
  refine ⟨?_, setRow_heap _ _ _ _ _ _ h3, ?_, by simp⟩
  · rw [setRow_other _ _ _ _ (by omega)]; exact setRow_heap _ _ _ _ _ _ h1
  · have hb : Below w.heap.size w ((w.alloc (.cells Z 34)).alloc (.cells Z 34)) := ((Below.refl _ w).alloc (Nat.le_refl _) _).alloc (by simp) _
    refine hb.trans ⟨rfl, rfl, rfl, by simp, fun j hj => ?_⟩
    rw [setRow_other _ _ _ _ (by omega), setRow_other _ _ _ _ (by omega)]
theorem owns_base {w : World} {B B' n : Nat} {v : Value} {xs : List Value} (h : w.ownsRow B 5 1 v n xs) (hb : B' ≤ B) : w.ownsRow B' 5 1 v n xs := by
  refine ⟨h.1, ?_⟩
  rcases h.2 with hh | ⟨g, cap, cur, hv, hB, rest⟩
  · exact .inl hh
  · exact .inr ⟨g, cap, cur, hv, Nat.le_trans hb hB, rest⟩
theorem FS.c1 {W : World} {B b7 b8 b9 : Nat} {l D : List UInt8} {o1 o2 : Value} {v : World} (h : FS W B b7 b8 b9 l D o1 o2 v) : v.cell? ⟨b8, 9, none⟩ = some o1 ∧ v.frozen? ⟨b8, 9, none⟩ = false := by
  obtain ⟨X, a, b⟩ := h.m1
  exact ⟨by rw [cell_of_heap a]; exact b, frozen_of_heap a _⟩
theorem FS.c2 {W : World} {B b7 b8 b9 : Nat} {l D : List UInt8} {o1 o2 : Value} {v : World} (h : FS W B b7 b8 b9 l D o1 o2 v) : v.cell? ⟨b9, 9, none⟩ = some o2 ∧ v.frozen? ⟨b9, 9, none⟩ = false := by
  obtain ⟨X, a, b⟩ := h.m2
  exact ⟨by rw [cell_of_heap a]; exact b, frozen_of_heap a _⟩
theorem FS.set1 {W : World} {B b7 b8 b9 : Nat} {l D : List UInt8} {o1 o2 : Value} {v : World} (h : FS W B b7 b8 b9 l D o1 o2 v) (o : Value) : FS W B b7 b8 b9 l D o o2 (v.setCell ⟨b8, 9, none⟩ o) := by
  obtain ⟨h1, h2, h3, h4, h5⟩ := h.ord
  have hW := h.g.size
  have oth : ∀ k, k ≠ b8 → (v.setCell ⟨b8, 9, none⟩ o).heap[k]? = v.heap[k]? := fun k hk => Below.heap_setCell _ _ _ _ (by simp only; omega)
  refine ⟨h.tw, h.g.setCell (by simp only; omega) _, took_copy h.tk (oth _ (by omega)), (oth _ (by omega)).trans h.want, ?_, ?_, h1, h2, h3, h4, by simp; exact h5⟩
  · obtain ⟨X, a, b⟩ := h.m1
    exact ⟨X.setIfInBounds 9 o, Go.Joins.block_setCell a _, by rw [Array.getElem?_setIfInBounds_self]; simp [(Array.getElem?_eq_some_iff.1 b).1]⟩
  · obtain ⟨X, a, b⟩ := h.m2
    exact ⟨X, (oth _ (by omega)).trans a, b⟩
theorem FS.set2 {W : World} {B b7 b8 b9 : Nat} {l D : List UInt8} {o1 o2 : Value} {v : World} (h : FS W B b7 b8 b9 l D o1 o2 v) (o : Value) : FS W B b7 b8 b9 l D o1 o (v.setCell ⟨b9, 9, none⟩ o) := by
  obtain ⟨h1, h2, h3, h4, h5⟩ := h.ord
  have hW := h.g.size
  have oth : ∀ k, k ≠ b9 → (v.setCell ⟨b9, 9, none⟩ o).heap[k]? = v.heap[k]? := fun k hk => Below.heap_setCell _ _ _ _ (by simp only; omega)
  refine ⟨h.tw, h.g.setCell (by simp only; omega) _, took_copy h.tk (oth _ (by omega)), (oth _ (by omega)).trans h.want, ?_, ?_, h1, h2, h3, h4, by simp; exact h5⟩
  · obtain ⟨X, a, b⟩ := h.m1
    exact ⟨X, (oth _ (by omega)).trans a, b⟩
  · obtain ⟨X, a, b⟩ := h.m2
    exact ⟨X.setIfInBounds 9 o, Go.Joins.block_setCell a _, by rw [Array.getElem?_setIfInBounds_self]; simp [(Array.getElem?_eq_some_iff.1 b).1]⟩
end Go.Proofs.YtjjahcidncnogaaDoor
