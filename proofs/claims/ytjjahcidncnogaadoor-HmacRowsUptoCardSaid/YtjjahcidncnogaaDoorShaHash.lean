/- A hash in memory: its block, and the contract of step. -/
import Derived.Test.YtjjahcidncnogaaDoorShaRound
import Derived.Test.YtjjahcidncnogaaDoorRowB
import Derived.Deep.MidRow
import Derived.Handy
namespace Go.Proofs.YtjjahcidncnogaaDoor
open Go.RowKit Go.Lib

/-- Bytes as numbers. -/
def bI (D : List UInt8) : List Int := D.map fun b => (b.toNat : Int)
theorem cells8_bI (D : List UInt8) : cells8 (bI D) = (byteCells D).toArray := by
  unfold cells8 bI byteCells
  rw [List.map_map]
  rfl
theorem bI_length (D : List UInt8) : (bI D).length = D.length := by simp [bI]
theorem bI_range (D : List UInt8) : ∀ x ∈ bI D, 0 ≤ x ∧ x < 256 := by
  intro x hx
  simp only [bI, List.mem_map] at hx
  obtain ⟨b, _, rfl⟩ := hx
  have := b.toNat_lt
  omega

/-- The cells of a hash. -/
def hcells (st : List Int) (bl : Int) (rest : List UInt8) (held : Int) : List Value := st.map (Value.int .u32) ++ ([.int .u64 bl] ++ (byteCells rest ++ [.int .i64 held]))
structure HB (w : World) (b : Nat) (st : List Int) (bl : Int) (rest : List UInt8) (held : Int) : Prop where
  heap : w.heap[b]? = some (.cells (hcells st bl rest held).toArray 114 (0, 0))
  ls : st.length = 8
  lr : rest.length = 64

theorem bc_len (l : List UInt8) : (byteCells l).length = l.length := by simp [byteCells]
theorem hcells_len {st : List Int} {bl : Int} {rest : List UInt8} {held : Int} (hs : st.length = 8) (hr : rest.length = 64) : (hcells st bl rest held).length = 74 := by
  simp [hcells, hs, bc_len, hr]
theorem hcells_one (st : List Int) (bl : Int) (rest : List UInt8) (held : Int) : ∀ v ∈ hcells st bl rest held, v.oneCell' = true := by
  intro v hv
  simp [hcells, byteCells] at hv
  rcases hv with ⟨x, _, rfl⟩ | rfl | ⟨x, _, rfl⟩ | rfl <;> rfl
theorem HB.lt {w : World} {b : Nat} {st : List Int} {bl : Int} {rest : List UInt8} {held : Int} (h : HB w b st bl rest held) : b < w.heap.size := (Array.getElem?_eq_some_iff.1 h.heap).1
theorem HB.keep {w w' : World} {b B : Nat} {st : List Int} {bl : Int} {rest : List UInt8} {held : Int} (h : HB w b st bl rest held) (hb : Below B w w') (hlt : b < B) : HB w' b st bl rest held := ⟨(hb.block b hlt).trans h.heap, h.ls, h.lr⟩
theorem HB.drewN {w : World} {b : Nat} {st : List Int} {bl : Int} {rest : List UInt8} {held : Int} (h : HB w b st bl rest held) (n : Nat) : HB (w.drewN n) b st bl rest held := ⟨h.heap, h.ls, h.lr⟩
theorem HB.alloc {w : World} {b : Nat} {st : List Int} {bl : Int} {rest : List UInt8} {held : Int} (h : HB w b st bl rest held) (o : Obj) : HB (w.alloc o) b st bl rest held := ⟨((MapKept.heap_alloc w o).2 b h.lt).trans h.heap, h.ls, h.lr⟩
theorem HB.state {w : World} {b : Nat} {st : List Int} {bl : Int} {rest : List UInt8} {held : Int} (h : HB w b st bl rest held) : w.rangeAt b 0 (st.map (Value.int .u32)) := fun j v hv => by
  have hj : j < (st.map (Value.int .u32)).length := (List.getElem?_eq_some_iff.1 hv).1
  rw [cell_of_heap h.heap, Nat.zero_add, List.getElem?_toArray]
  unfold hcells
  rw [List.getElem?_append_left hj, hv]
theorem HB.blocks {w : World} {b : Nat} {st : List Int} {bl : Int} {rest : List UInt8} {held : Int} (h : HB w b st bl rest held) : w.cell? ⟨b, 8, none⟩ = some (.int .u64 bl) := by
  rw [cell_of_heap h.heap, List.getElem?_toArray]
  unfold hcells
  rw [List.getElem?_append_right (by simp [h.ls])]
  simp [h.ls]
theorem HB.rest {w : World} {b : Nat} {st : List Int} {bl : Int} {rest : List UInt8} {held : Int} (h : HB w b st bl rest held) : w.rangeAt b 9 (byteCells rest) := fun j v hv => by
  have hj : j < (byteCells rest).length := (List.getElem?_eq_some_iff.1 hv).1
  rw [cell_of_heap h.heap, List.getElem?_toArray]
  unfold hcells
  rw [List.getElem?_append_right (by simp [h.ls]; omega)]
  simp only [List.length_map, h.ls]
  rw [show 9 + j - 8 = j + 1 from by omega]
  show (byteCells rest ++ _)[j]? = _
  rw [List.getElem?_append_left hj, hv]
theorem HB.held {w : World} {b : Nat} {st : List Int} {bl : Int} {rest : List UInt8} {held : Int} (h : HB w b st bl rest held) : w.cell? ⟨b, 73, none⟩ = some (.int .i64 held) := by
  rw [cell_of_heap h.heap, List.getElem?_toArray]
  unfold hcells
  rw [List.getElem?_append_right (by simp [h.ls])]
  simp only [List.length_map, h.ls]
  show (byteCells rest ++ [Value.int .i64 held])[64]? = _
  rw [List.getElem?_append_right (by simp [bc_len, h.lr])]
  simp [bc_len, h.lr]
theorem HB.free {w : World} {b : Nat} {st : List Int} {bl : Int} {rest : List UInt8} {held : Int} (h : HB w b st bl rest held) (j : Nat) : w.frozen? ⟨b, j, none⟩ = false := frozen_of_heap h.heap j
/-- The table lies elsewhere. -/
theorem HB.tab {w : World} {b : Nat} {st : List Int} {bl : Int} {rest : List UInt8} {held : Int} (h : HB w b st bl rest held) (hT : Tab w) : b ≠ 0 := by
  intro e
  subst e
  have h1 := h.blocks
  rw [hT 8 (by decide)] at h1
  cases h1

theorem HB.setBlocks {w : World} {b : Nat} {st : List Int} {bl : Int} {rest : List UInt8} {held : Int} (h : HB w b st bl rest held) (x : Int) : HB (w.setCell ⟨b, 8, none⟩ (.int .u64 x)) b st x rest held := ⟨by
  rw [Go.Joins.block_setCell h.heap _, List.setIfInBounds_toArray]
  congr 3
  unfold hcells
  rw [List.set_append_right _ _ (by simp [h.ls])]
  simp [h.ls], h.ls, h.lr⟩
theorem HB.setHeld {w : World} {b : Nat} {st : List Int} {bl : Int} {rest : List UInt8} {held : Int} (h : HB w b st bl rest held) (x : Int) : HB (w.setCell ⟨b, 73, none⟩ (.int .i64 x)) b st bl rest x := ⟨by
  rw [Go.Joins.block_setCell h.heap _, List.setIfInBounds_toArray]
  congr 3
  unfold hcells
  rw [List.set_append_right _ _ (by simp [h.ls])]
  simp only [List.length_map, h.ls]
  show _ ++ ([Value.int .u64 bl] ++ (byteCells rest ++ [Value.int .i64 held])).set 65 _ = _
  rw [List.set_append_right _ _ (by simp), List.set_append_right _ _ (by simp [bc_len, h.lr])]
  simp [bc_len, h.lr], h.ls, h.lr⟩

/-- A whole array into the middle of a block that is known whole: the world, as a row that is set. -/
theorem run_storeVar_at {P : Program} (w : World) (g o : Nat) (t ty : TypeId) (cur cells : Array Value) (hg : w.heap[g]? = some (.cells cur t (0, 0))) (hi : (P.info? ty).map (·.size) = some cells.size)
    (hf : o + cells.size ≤ cur.size) (h1 : cells.all (·.oneCell') = true) :
    (storeVar ty ⟨g, o, none⟩ (.agg cells)).run P w = .ok () (w.setRow g (splice cur.toList o cells.toList).toArray) := by
  have := run_storeCells_at P g o t cells.toList 0 cur w hg (by simpa using hf) (fun v hv => (Array.all_eq_true_iff_forall_mem.1 h1) v (by simpa using hv))
  simp only [Nat.add_zero] at this
  cases hq : P.info? ty with
  | none => simp [hq] at hi
  | some i =>
    have hs : cells.size = i.size := by simp [hq] at hi; omega
    unfold splice
    simp [storeVar, sizeOf, typeInfo, hq, Value.cells, hs, this]
theorem wpList_store_at {P : Program} {ops : Array Oper} {rest : List Oper} {o : Oper} {a : Act} {w : World} {Q : Exit → Act → World → Prop} (hgd : o.guard = none) (ty : TypeId) (x y : Operand) (ho : o.op = .store ty x y)
    (g off : Nat) (cells : Array Value) (hx : a.eval x = .pointer (some ⟨g, off, none⟩)) (hy : a.eval y = .agg cells)
    (t : TypeId) (cur : Array Value) (hg : w.heap[g]? = some (.cells cur t (0, 0))) (hi : (P.info? ty).map (·.size) = some cells.size)
    (hf : off + cells.size ≤ cur.size) (h1 : cells.all (·.oneCell') = true)
    (h : wpList P ops Q rest (a.put o.dst undef) (w.setRow g (splice cur.toList off cells.toList).toArray)) : wpList P ops Q (o :: rest) a w :=
  wpList_plain hgd fun K hK => by
    unfold Oper.wp execOp
    simp only [ho, hx, hy, Instr.storeAt, Instr.sureAddr, Sem.run_bind, Sem.run_pure, Result.andThen_ok, run_storeVar_at w g off t ty cur cells hg hi hf h1]
    exact hK _ _ h

theorem wp_store_at {P : Program} {o : Oper} {a : Act} {w : World} {K : Act → World → Prop} {Q : Exit → Act → World → Prop} (ty : TypeId) (x y : Operand) (ho : o.op = .store ty x y)
    (g off : Nat) (cells : Array Value) (hx : a.eval x = .pointer (some ⟨g, off, none⟩)) (hy : a.eval y = .agg cells)
    (t : TypeId) (cur : Array Value) (hg : w.heap[g]? = some (.cells cur t (0, 0))) (hi : (P.info? ty).map (·.size) = some cells.size)
    (hf : off + cells.size ≤ cur.size) (h1 : cells.all (·.oneCell') = true)
    (h : K (a.put o.dst undef) (w.setRow g (splice cur.toList off cells.toList).toArray)) : o.wp P a w K Q := by
  unfold Oper.wp execOp
  simp only [ho, hx, hy, Instr.storeAt, Instr.sureAddr, Sem.run_bind, Sem.run_pure, Result.andThen_ok, run_storeVar_at w g off t ty cur cells hg hi hf h1]
  exact h

theorem HB.setState {w : World} {b : Nat} {st : List Int} {bl : Int} {rest : List UInt8} {held : Int} (h : HB w b st bl rest held) (st' : List Int) (hs : st'.length = 8) :
    HB (w.setRow b (splice (hcells st bl rest held).toArray.toList 0 (cells32 st').toList).toArray) b st' bl rest held := ⟨by
  rw [setRow_heap w b _ _ _ _ h.heap]
  congr 3
  unfold splice hcells cells32
  simp only [List.take_zero, List.nil_append, Nat.zero_add, List.length_map, hs]
  rw [List.drop_append_of_le_length (by simp [h.ls]), List.drop_of_length_le (by simp [h.ls])]
  rfl, hs, h.lr⟩
theorem HB.setRest {w : World} {b : Nat} {st : List Int} {bl : Int} {rest : List UInt8} {held : Int} (h : HB w b st bl rest held) (k : Nat) (q : List UInt8) (hk : k + q.length ≤ 64) {w' : World}
    (hw : w'.heap[b]? = some (.cells (splice (hcells st bl rest held) (9 + k) (byteCells q)).toArray 114 (0, 0))) :
    HB w' b st bl (splice rest k q) held := ⟨by
  rw [hw]
  congr 3
  unfold splice hcells
  have e1 : 9 + k - 8 = k + 1 := by omega
  have e2 : 9 + k + q.length - 8 = k + q.length + 1 := by omega
  rw [List.take_append, List.drop_append]
  simp only [List.length_map, h.ls, bc_len, e1, e2]
  rw [List.take_of_length_le (by simp [h.ls]; omega), List.drop_of_length_le (by simp [h.ls]; omega)]
  simp only [List.singleton_append, List.take_succ_cons, List.drop_succ_cons]
  rw [List.take_append_of_le_length (by simp [bc_len, h.lr]; omega), List.drop_append_of_le_length (by simp [bc_len, h.lr]; omega)]
  simp only [byteCells, List.map_append, List.map_take, List.map_drop, List.append_assoc, List.cons_append, List.nil_append], h.ls, by
  rw [length_splice _ _ _ (by rw [h.lr]; exact hk)]; exact h.lr⟩

theorem But.setRow {b K : Nat} {u w : World} (h : But b K u w) (cs : Array Value) : But b K u (w.setRow K cs) :=
  h.trans ⟨rfl, rfl, rfl, by simp, fun i hi hn => setRow_other w K i _ (by omega)⟩
theorem But.drewN {b K : Nat} {u w : World} (n : Nat) (h : But b K u w) : But b K u (w.drewN n) := ⟨h.os, h.tape, h.output, h.size, h.block⟩
theorem Tab.but {b : Nat} {w w' : World} (h : Tab w) (hb : But w.heap.size b w w') (hn : b ≠ 0) : Tab w' := fun i hi =>
  (hb.cell (p := ⟨0, i, none⟩) h.lt (Ne.symm hn)).trans (h i hi)

/-- A load of a whole array in a region that is walked in the text's order. -/
theorem wpStill_load {P : Program} {ops : Array Oper} {w : World} {Q : Act → Prop} {rest : List Oper} {o : Oper} {a : Act} (hgd : o.guard = none) (ty : TypeId) (x : Operand) (ho : o.op = .load ty x) (p v : Value) (hx : a.eval x = p)
    (hr : (Instr.loadAt ty p).run P w = .ok v w) (h : wpStill P ops w Q rest (a.put o.dst v)) : wpStill P ops w Q (o :: rest) a :=
  wpStill_step fun K hK => by
    rw [if_pos (by simp [Region.wanted, hgd])]
    unfold Oper.still execOp
    simp only [ho, hx, Sem.run_bind, hr, Result.andThen_ok, Sem.run_pure, Oper.stillUpon]
    exact ⟨trivial, hK _ h⟩

/-- One operation alone may come up next. -/
theorem any_one {P : Program} {md : Region.Mode} {ops : Array Oper} {Q : Exit → Act → World → Prop} {fuel : Nat} {listed : Array Bool} {a : Act} {w : World} (i : Nat) (o : Oper) (hr : Region.ready md ops listed = [i]) (ho : ops[i]? = some o) (hw : Region.wanted o (yielded ops a.tmps) = true)
    (h : ∀ K' : Act → World → Prop, (∀ a w, wpAny P md ops Q fuel (listed.setIfInBounds i true) a w → K' a w) → Oper.wp P o a w K' Q) : wpAny P md ops Q (fuel + 1) listed a w :=
  wpAny_ready hr (by simp) (AllReady.cons ho (fun K' hK => by rw [if_pos hw]; exact h K' hK) AllReady.nil)
theorem run_execLoad {P : Program} {ρ : Operand → Value} {o : Oper} {w : World} {v : Value} (ty : TypeId) (x : Operand) (ho : o.op = .load ty x) (hr : (Instr.loadAt ty (ρ x)).run P w = .ok v w) : (execOp ρ o).run P w = .ok (.value v) w := by
  unfold execOp
  simp only [ho, Sem.run_bind, hr, Result.andThen_ok, Sem.run_pure]
theorem wp_of_value {P : Program} {o : Oper} {a : Act} {w : World} {K : Act → World → Prop} {Q : Exit → Act → World → Prop} {v : Value} (hr : (execOp a.eval o).run P w = .ok (.value v) w) (h : K (a.put o.dst v) w) : o.wp P a w K Q := by
  unfold Oper.wp
  rw [hr]
  exact h
/-- Two loads, in either order. -/
theorem any_loads {P : Program} {md : Region.Mode} {ops : Array Oper} {Q : Exit → Act → World → Prop} {fuel : Nat} {listed : Array Bool} {a : Act} {w : World} (i j : Nat) (o u : Oper) (v1 v2 : Value) (hr : Region.ready md ops listed = [i, j]) (ho : ops[i]? = some o) (hu : ops[j]? = some u)
    (hr1 : Region.ready md ops (listed.setIfInBounds i true) = [j]) (hr2 : Region.ready md ops (listed.setIfInBounds j true) = [i])
    (hw1 : Region.wanted o (yielded ops a.tmps) = true) (hw2 : Region.wanted u (yielded ops a.tmps) = true)
    (hw3 : Region.wanted u (yielded ops (a.put o.dst v1).tmps) = true) (hw4 : Region.wanted o (yielded ops (a.put u.dst v2).tmps) = true)
    (h1 : (execOp a.eval o).run P w = .ok (.value v1) w) (h2 : (execOp a.eval u).run P w = .ok (.value v2) w)
    (h3 : (execOp (a.put o.dst v1).eval u).run P w = .ok (.value v2) w) (h4 : (execOp (a.put u.dst v2).eval o).run P w = .ok (.value v1) w)
    (hl : (listed.setIfInBounds j true).setIfInBounds i true = (listed.setIfInBounds i true).setIfInBounds j true) (hp : (a.put u.dst v2).put o.dst v1 = (a.put o.dst v1).put u.dst v2)
    (h : wpAny P md ops Q fuel ((listed.setIfInBounds i true).setIfInBounds j true) ((a.put o.dst v1).put u.dst v2) w) : wpAny P md ops Q (fuel + 2) listed a w :=
  wpAny_ready hr (by simp) (AllReady.cons ho (fun K' hK => by
      rw [if_pos hw1]
      exact wp_of_value h1 (hK _ _ (any_one j u hr1 hu hw3 fun K2 hK2 => wp_of_value h3 (hK2 _ _ h))))
    (AllReady.cons hu (fun K' hK => by
      rw [if_pos hw2]
      exact wp_of_value h2 (hK _ _ (any_one i o hr2 ho hw4 fun K2 hK2 => wp_of_value h4 (hK2 _ _ (by rw [hl, hp]; exact h))))) AllReady.nil))

theorem sizeHash : (Tryd.prog.info? 114).map (·.size) = some 74 := by kernel_rfl

set_option maxRecDepth 100000 in
set_option maxHeartbeats 4000000 in
theorem step_any (b : Nat) (st : List Int) (bl : Int) (rest : List UInt8) (held : Int) (B : List UInt8) (hB : B.length = 64) (w : World) (hT : Tab w) (hH : HB w b st bl rest held) :
    Calls Tryd.prog 94 #[.pointer (some ⟨b, 0, none⟩), .agg (byteCells B).toArray] w fun e w' => e = .returned (.tuple #[]) ∧ HB w' b (roundI st (bI B)) ((bl + 1) % 18446744073709551616) rest held ∧ But w.heap.size b w w' := by
  rw [← cells8_bI]
  have hlB : (bI B).length = 64 := by rw [bI_length, hB]
  have hsB : (Tryd.prog.info? 112).map (·.size) = some (cells8 (bI B)).size := by rw [cells8_size, hlB]; exact sizeBlock
  obtain ⟨v1, hv1⟩ : ∃ v, v = w.alloc (.cells (cells8 (bI B)) 112) := ⟨_, rfl⟩
  have HV := Lib.hid hv1
  have H1 : Hid (HB v1 b st bl rest held) := Lib.hid (by rw [hv1]; exact hH.alloc _)
  have HT1 : Hid (Tab v1.drew) := Lib.hid (by rw [hv1]; exact hT.alloc _)
  have HC : Hid (v1.heap[w.heap.size]? = some (.cells (cells8 (bI B)) 112 (0, 0))) := Lib.hid (by rw [hv1]; exact (MapKept.heap_alloc _ _).1)
  have HG : Hid (Below w.heap.size w v1) := Lib.hid (by rw [hv1]; exact (Below.refl _ w).alloc (Nat.le_refl _) _)
  have HLt := Lib.hid hH.lt
  have HNe := Lib.hid (hH.tab hT)
  have hld : (Instr.loadAt 26 (.pointer (some ⟨b, 0, none⟩))).run Tryd.prog v1.drew = .ok (.agg (cells32 st)) v1.drew :=
    run_loadAt_mid v1.drew b 0 26 (st.map (Value.int .u32)) _ H1.out.state Tryd.underlying26 rfl (by rw [List.length_map, H1.out.ls]; exact sizeState)
  have hlr : (Instr.loadAt 112 (.pointer (some ⟨w.heap.size, 0, none⟩))).run Tryd.prog v1.drew = .ok (.agg (cells8 (bI B))) v1.drew := by
    simp only [Instr.loadAt, Instr.sureAddr, Sem.run_bind, Sem.run_pure, Result.andThen_ok]
    exact run_loadVar_row v1.drew w.heap.size 112 112 _ (0, 0) _ HC.out Tryd.underlying112 rfl hsB
  have HRd := Lib.hid (round_any st (bI B) H1.out.ls hlB (bI_range B) v1.drew HT1.out)
  have HRl : Hid ((roundI st (bI B)).length = 8) := Lib.hid (by rw [roundI_length]; exact H1.out.ls)
  obtain ⟨F, hF⟩ : ∃ F, roundI st (bI B) = F := ⟨_, rfl⟩
  obtain ⟨X, hX⟩ : ∃ X, cells8 (bI B) = X := ⟨_, rfl⟩
  rw [hF] at HRd HRl ⊢
  rw [hX] at HV HC HRd hlr ⊢
  clear hF hX hlB hsB hv1 hH hT hB
  go_enter Tryd.func94, Tryd.ntmps94
  go_wp2_with fail
  rw [← HV.out]
  have HLd := Lib.hid hld
  have HLr := Lib.hid hlr
  clear hld hlr
  refine wp_region_any (by kernel_rfl) ?_
  refine wpAny_take (i := 0) (v := .pointer (some ⟨b, 0, none⟩)) rfl (by kernel_rfl) (by kernel_rfl) (by kernel_rfl) (fun _ _ _ h => h) (Or.inl ⟨rfl, fun w => by go_simp⟩) ?_
  refine wpAny_take (i := 1) (v := .pointer (some ⟨b, 0, none⟩)) rfl (by kernel_rfl) (by kernel_rfl) (by kernel_rfl) (fun _ _ _ h => h) (Or.inl ⟨rfl, fun w => by go_simp⟩) ?_
  refine wpAny_take (i := 2) (v := .pointer (some ⟨b, 0, none⟩)) rfl (by kernel_rfl) (by kernel_rfl) (by kernel_rfl) (fun _ _ _ h => h) (Or.inl ⟨rfl, fun w => by go_simp⟩) ?_
  refine wpAny_take (i := 3) (v := .pointer (some ⟨b, 0, none⟩)) rfl (by kernel_rfl) (by kernel_rfl) (by kernel_rfl) (fun _ _ _ h => h) (Or.inl ⟨rfl, fun w => by go_simp⟩) ?_
  simp only [Act.put, List.setIfInBounds_toArray]
  refine any_loads 4 5 _ _ (.agg (cells32 st)) (.agg X) (by kernel_rfl) rfl rfl (by kernel_rfl) (by kernel_rfl) rfl rfl rfl rfl (run_execLoad _ _ rfl HLd.out) (run_execLoad _ _ rfl HLr.out) (run_execLoad _ _ rfl HLr.out) (run_execLoad _ _ rfl HLd.out) rfl rfl ?_
  simp only [Act.put]
  refine any_one 6 _ (by kernel_rfl) rfl rfl fun K hK => ?_
  go_simp
  refine HRd.out.mono ?_
  rintro e w1 ⟨rfl, hb1⟩
  show K _ _
  refine hK _ _ ?_
  clear hK K
  have hz : v1.heap.size ≤ w1.heap.size := hb1.size
  have H2 : Hid (HB w1 b st bl rest held) := Lib.hid ((H1.out.drewN 1).keep hb1 (show b < v1.heap.size from H1.out.lt))
  have HG2 : Hid (But w.heap.size b w w1) := Lib.hid ((But.of (below_drawn 1 HG.out)).trans ((But.of hb1).mono (by have := HG.out.size; exact this)))
  clear hb1 hz
  refine wpAny_take (i := 7) (v := .pointer (some ⟨b, 0, none⟩)) rfl (by kernel_rfl) (by kernel_rfl) (by kernel_rfl) (fun _ _ _ h => h) (Or.inl ⟨rfl, fun w => by go_simp⟩) ?_
  refine wpAny_take (i := 8) (v := .pointer (some ⟨b, 0, none⟩)) rfl (by kernel_rfl) (by kernel_rfl) (by kernel_rfl) (fun _ _ _ h => h) (Or.inl ⟨rfl, fun w => by go_simp⟩) ?_
  simp only [Act.put]
  refine any_one 9 _ (by kernel_rfl) rfl rfl fun K hK => ?_
  refine wp_store_at 26 (.tmp 12) (.tmp 10) rfl b 0 (cells32 F) rfl rfl 114 _ H2.out.heap (by rw [cells32_size, HRl.out]; exact sizeState) (by rw [cells32_size, HRl.out, List.size_toArray, hcells_len H2.out.ls H2.out.lr]; decide) (cells32_one F) ?_
  refine hK _ _ ?_
  clear hK K
  have H3 := H2.out.setState F HRl.out
  have HG3 := HG2.out.setRow (splice (hcells st bl rest held).toArray.toList 0 (cells32 F).toList).toArray
  obtain ⟨w2, hw2⟩ : ∃ v, v = w1.setRow b (splice (hcells st bl rest held).toArray.toList 0 (cells32 F).toList).toArray := ⟨_, rfl⟩
  rw [← hw2] at H3 HG3 ⊢
  have HH3 := Lib.hid H3
  have HHG3 := Lib.hid HG3
  have c1 := H3.blocks
  have f1 := H3.free 8
  have H4 := Lib.hid (H3.setBlocks ((bl + 1) % 18446744073709551616))
  have HG4 := Lib.hid (HG3.set (p := ⟨b, 8, none⟩) (.inl rfl) (.int .u64 ((bl + 1) % 18446744073709551616)))
  clear H3 HG3 hw2
  refine wpAny_done (by kernel_rfl) ?_ _
  go_wp2_with fail
  go_returns
  exact ⟨rfl, H4.out, HG4.out⟩
end Go.Proofs.YtjjahcidncnogaaDoor
