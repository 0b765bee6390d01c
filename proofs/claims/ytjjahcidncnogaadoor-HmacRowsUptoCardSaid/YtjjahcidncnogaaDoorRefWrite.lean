/- The reference's Write: its contract. -/
import Derived.Test.YtjjahcidncnogaaDoorRefHs2
import Derived.Test.YtjjahcidncnogaaDoorRefR
import Derived.StillTailTactics
namespace Go.Proofs.YtjjahcidncnogaaDoor
open Go.ChangeShapes Go.WideShapes Go.ChangeAt Go.RowKit Go.Lib

/-- A hash of the reference's that began at a state and took the bytes L: its cells. -/
def refK (st0 : List Int) (bl0 : Int) (L : List UInt8) (v : Value) : Array Value := refC (blocksI (L.length / 64) st0 L) (blk bl0 (L.length / 64)) v
theorem refK_size (st0 : List Int) (hs : st0.length = 8) (bl0 : Int) (L : List UInt8) (v : Value) : (refK st0 bl0 L v).size = 10 := refC_size _ (by rw [blocksI_length]; exact hs) _ _
theorem refK_set (st0 : List Int) (hs : st0.length = 8) (bl0 : Int) (L : List UInt8) (v v' : Value) : (refK st0 bl0 L v).setIfInBounds 9 v' = refK st0 bl0 L v' := refC_set _ (by rw [blocksI_length]; exact hs) _ _ _
theorem refK_rest (st0 : List Int) (hs : st0.length = 8) (bl0 : Int) (L : List UInt8) (v : Value) : (refK st0 bl0 L v)[9]? = some v := refC_rest _ (by rw [blocksI_length]; exact hs) _ _
theorem refK_step (st0 : List Int) (bl0 : Int) (L : List UInt8) (x : UInt8) (v : Value) (h : L.length % 64 < 63) : refK st0 bl0 (L ++ [x]) v = refK st0 bl0 L v := by
  unfold refK
  rw [blocks_step st0 L x h, show (L ++ [x]).length / 64 = L.length / 64 by rw [List.length_append, List.length_singleton]; omega]
theorem refK_full (st0 : List Int) (bl0 : Int) (L : List UInt8) (x : UInt8) (v : Value) (h : L.length % 64 = 63) :
    refK st0 bl0 (L ++ [x]) v = refC (roundI (blocksI (L.length / 64) st0 L) (bI (restL L ++ [x]))) ((blk bl0 (L.length / 64) + 1) % 18446744073709551616) v := by
  unfold refK
  rw [blocks_full st0 L x h, blk_succ, show (L ++ [x]).length / 64 = L.length / 64 + 1 by rw [List.length_append, List.length_singleton]; omega]
theorem refC_range {w : World} {g : Nat} {st : List Int} {bl : Int} {v : Value} {t : TypeId} {f : Nat × Nat} (h : w.heap[g]? = some (.cells (refC st bl v) t f)) : w.rangeAt g 0 (st.map (Value.int .u32)) := fun j u hu => by
  have hj : j < (st.map (Value.int .u32)).length := (List.getElem?_eq_some_iff.1 hu).1
  rw [Go.Joins.cell_of_block h, Nat.zero_add]
  unfold refC
  rw [List.getElem?_toArray, List.getElem?_append_left hj, hu]
theorem refC_splice (st st' : List Int) (hs : st.length = 8) (hs' : st'.length = 8) (bl : Int) (v : Value) : (splice (refC st bl v).toList 0 (cells32 st').toList).toArray = refC st' bl v := by
  unfold splice refC cells32
  simp [hs, hs']
theorem refC_set8 (st : List Int) (hs : st.length = 8) (bl bl' : Int) (v : Value) : (refC st bl v).setIfInBounds 8 (.int .u64 bl') = refC st bl' v := by
  simp [refC, hs]

/-- append of bytes to a row of the call's own, as one operation. -/
theorem wp_append_where {w : World} {o : Oper} {a : Act} {K : Act → World → Prop} {Q : Exit → Act → World → Prop} (s x : Operand)
    (ho : o.op = .call { callee := .builtin .append, args := #[s, x], argTypes := #[28, 28] }) (base : Nat) (v : Value) (n : Nat) (xs : List UInt8) (hs : a.eval s = v) (hown : w.ownsRow base 5 1 v n (Go.Lib.byteCells xs))
    (ad : Addr) (m c t : Nat) (l : List UInt8) (hx : a.eval x = .slice (some ad) m c) (hl : l.length = m) (h0 : 0 < m) (b K0 : Nat) (hB : Bytes b K0 (some ad) l w) (ht : n + m = t) (hbytes : t ≤ 140737488355328) (hbase : base ≤ w.heap.size)
    (h : ∀ p cap w', w'.ownsRow base 5 1 (.slice p t cap) t (Go.Lib.byteCells (xs ++ l)) → w.grownBy w' v.ownBlock → K (a.put o.dst (.slice p t cap)) w') : o.wp Tryd.prog a w K Q := by
  subst hl ht
  obtain ⟨p, cap, w', hr, h1, h2, h3⟩ := run_append_where w base o.type v n xs hown ad c l h0 (fun j u hj => by
    have hj' : j < l.length := by
      have := (List.getElem?_eq_some_iff.1 hj).1
      rwa [bc_len] at this
    obtain ⟨pb, off, hp, _, _, hc⟩ := hB (by intro e; rw [e] at hj'; simp at hj')
    cases hp
    rw [Addr.add_lit, hc j hj']
    simp [Go.Lib.byteCells, List.getElem?_eq_getElem hj'] at hj
    rw [hj]) hbytes hbase
  unfold Oper.wp execOp
  simp only [ho, resolve, invoke, builtin, Sem.run_bind, Sem.run_pure, Result.andThen_ok, List.map_toArray, List.map_cons, List.map_nil, hs, hx, hr]
  exact h p cap w' h1 h2
theorem wp_of_val2 {P : Program} {o : Oper} {a : Act} {w w' : World} {K : Act → World → Prop} {Q : Exit → Act → World → Prop} {v : Value} (hr : (execOp a.eval o).run P w = .ok (.value v) w') (h : K (a.put o.dst v) w') : o.wp P a w K Q := by
  unfold Oper.wp
  rw [hr]
  exact h
/-- Two loads and what is made of the second one, in any order. -/
theorem any_loads_build {P : Program} {md : Region.Mode} {ops : Array Oper} {Q : Exit → Act → World → Prop} {fuel : Nat} {listed : Array Bool} {a : Act} {w w3 : World} (i j k : Nat) (o u b : Oper) (v1 v2 v3 : Value)
    (hr : Region.ready md ops listed = [i, j]) (ho : ops[i]? = some o) (hu : ops[j]? = some u) (hb : ops[k]? = some b)
    (hr1 : Region.ready md ops (listed.setIfInBounds i true) = [j]) (hr2 : Region.ready md ops (listed.setIfInBounds j true) = [i, k])
    (hr12 : Region.ready md ops ((listed.setIfInBounds i true).setIfInBounds j true) = [k]) (hr23 : Region.ready md ops ((listed.setIfInBounds j true).setIfInBounds k true) = [i])
    (gi : ∀ t, Region.wanted o t = true) (gj : ∀ t, Region.wanted u t = true) (gk : ∀ t, Region.wanted b t = true)
    (h1 : (execOp a.eval o).run P w = .ok (.value v1) w) (h2 : (execOp a.eval u).run P w = .ok (.value v2) w)
    (h21 : (execOp (a.put o.dst v1).eval u).run P w = .ok (.value v2) w) (h12 : (execOp (a.put u.dst v2).eval o).run P w = .ok (.value v1) w)
    (h3 : (execOp ((a.put o.dst v1).put u.dst v2).eval b).run P w = .ok (.value v3) w3)
    (h3' : (execOp (a.put u.dst v2).eval b).run P w = .ok (.value v3) w3) (h13 : (execOp ((a.put u.dst v2).put b.dst v3).eval o).run P w3 = .ok (.value v1) w3)
    (hl : (listed.setIfInBounds j true).setIfInBounds i true = (listed.setIfInBounds i true).setIfInBounds j true) (hl2 : ((listed.setIfInBounds j true).setIfInBounds k true).setIfInBounds i true = ((listed.setIfInBounds i true).setIfInBounds j true).setIfInBounds k true)
    (hp : (a.put u.dst v2).put o.dst v1 = (a.put o.dst v1).put u.dst v2) (hp2 : ((a.put u.dst v2).put b.dst v3).put o.dst v1 = ((a.put o.dst v1).put u.dst v2).put b.dst v3)
    (h : wpAny P md ops Q fuel (((listed.setIfInBounds i true).setIfInBounds j true).setIfInBounds k true) (((a.put o.dst v1).put u.dst v2).put b.dst v3) w3) : wpAny P md ops Q (fuel + 3) listed a w :=
  wpAny_ready hr (by simp) (AllReady.cons ho (fun K' hK => by
      rw [if_pos (gi _)]
      exact wp_of_val2 h1 (hK _ _ (any_one j u hr1 hu (gj _) fun K2 hK2 => wp_of_val2 h21 (hK2 _ _ (any_one k b hr12 hb (gk _) fun K3 hK3 => wp_of_val2 h3 (hK3 _ _ h))))))
    (AllReady.cons hu (fun K' hK => by
      rw [if_pos (gj _)]
      refine wp_of_val2 h2 (hK _ _ (wpAny_ready hr2 (by simp) (AllReady.cons ho (fun K2 hK2 => ?_) (AllReady.cons hb (fun K2 hK2 => ?_) AllReady.nil))))
      · rw [if_pos (gi _)]
        refine wp_of_val2 h12 (hK2 _ _ ?_)
        rw [hl, hp]
        exact any_one k b hr12 hb (gk _) fun K3 hK3 => wp_of_val2 h3 (hK3 _ _ h)
      · rw [if_pos (gk _)]
        refine wp_of_val2 h3' (hK2 _ _ (any_one i o hr23 ho (gi _) fun K3 hK3 => wp_of_val2 h13 (hK3 _ _ ?_)))
        rw [hl2, hp2]
        exact h) AllReady.nil))

/-- How the memory of the reference's Write stands. -/
structure RW (w : World) (st0 : List Int) (bl0 : Int) (L : List UInt8) (q : Option Addr) (c d : Nat) (v : World) : Prop where
  h : v.heap[w.heap.size]? = some (.cells (refK st0 bl0 L (.slice q d c)) 30 (0, 0))
  r : v.heap[w.heap.size + 1]? = some (.cells (refC zeros8 0 (.slice none 0 0)) 30 (0, 0))
  o : v.ownsRow (w.heap.size + 1 + 1) 5 1 (.slice q d c) d (Go.Lib.byteCells (restL L))
  g : Below w.heap.size w v
  dl : L.length % 64 = d

/-- The first k bytes of a block, noughts behind them. -/
def fillB (X : List UInt8) (k : Nat) : List UInt8 := X.take k ++ zeroB.drop k
theorem fillB_length (X : List UInt8) (hX : X.length = 64) (k : Nat) (hk : k ≤ 64) : (fillB X k).length = 64 := by
  unfold fillB; rw [List.length_append, List.length_take, List.length_drop, show zeroB.length = 64 from rfl]; omega
theorem fillB_all (X : List UInt8) (hX : X.length = 64) : fillB X 64 = X := by
  unfold fillB; rw [List.take_of_length_le (by omega), List.drop_of_length_le (by decide), List.append_nil]
theorem fillB_step (X : List UInt8) (hX : X.length = 64) (k : Nat) (hk : k < 64) : (fillB X k).set k (X[k]'(by omega)) = fillB X (k + 1) := by
  have hl : (X.take k).length = k := by rw [List.length_take]; omega
  unfold fillB
  rw [List.set_append_right _ _ (by omega), hl, Nat.sub_self, List.drop_eq_getElem_cons (show k < zeroB.length from hk), List.set_cons_zero, List.take_succ_eq_append_getElem (by omega), List.append_assoc]
  rfl
/-- How memory stands while the block is filled. -/
structure BW (u : World) (X : List UInt8) (k : Nat) (v : World) : Prop where
  b : v.heap[u.heap.size]? = some (.cells (Go.Lib.byteCells (fillB X k)).toArray 112 (0, 0))
  g : Below u.heap.size u v

set_option maxRecDepth 100000 in
set_option maxHeartbeats 16000000 in
theorem refWrite_any (st0 : List Int) (hs : st0.length = 8) (bl0 : Int) (l b : List UInt8) (q : Option Addr) (c : Nat) (p : Option Addr) (cap : Nat) (w : World)
    (hn : q = none → restL l = [] ∧ c = 0) (hB : Bytes w.heap.size w.heap.size q (restL l) w) (hC : Bytes w.heap.size w.heap.size p b w) (hm : b.length ≤ 140737488353000) :
    Calls Tryd.prog 68 #[.agg (refK st0 bl0 l (.slice q (l.length % 64) c)), .slice p b.length cap] w fun e w' =>
      ∃ q' c', e = .returned (.agg (refK st0 bl0 (l ++ b) (.slice q' ((l ++ b).length % 64) c'))) ∧ w'.ownsRow w.heap.size 5 1 (.slice q' ((l ++ b).length % 64) c') ((l ++ b).length % 64) (Go.Lib.byteCells (restL (l ++ b))) ∧ Below w.heap.size w w' := by
  have HST := Lib.hid hs
  have HCC := Lib.hid hC
  obtain ⟨d0, hd0⟩ : ∃ d, l.length % 64 = d := ⟨_, rfl⟩
  have HD0 := Lib.hid hd0
  have hrl : (restL l).length = d0 := by rw [restL_length, hd0]
  obtain ⟨nb, hnb⟩ : ∃ n, b.length = n := ⟨_, rfl⟩
  have HNB := Lib.hid hnb
  have HS10 : ∀ L v, Hid ((Tryd.prog.info? 30).map (·.size) = some (refK st0 bl0 L v).size) := fun L v => Lib.hid (by rw [refK_size st0 HST.out]; exact sizeRef)
  have H1 : ∀ L p n c, Hid ((refK st0 bl0 L (.slice p n c)).all (·.oneCell') = true) := fun L p n c => Lib.hid (refC_one _ _ p n c)
  have HO : ∀ L v, Hid ((refC zeros8 0 (.slice none 0 0)).size = (refK st0 bl0 L v).size) := fun L v => Lib.hid (by rw [refK_size st0 HST.out]; rfl)
  have HOK : ∀ v v', Hid ((refK st0 bl0 l v).size = (refK st0 bl0 l v').size) := fun v v' => Lib.hid (by rw [refK_size st0 HST.out, refK_size st0 HST.out])
  obtain ⟨v0, hv0⟩ : ∃ v, v = (w.alloc (.cells (refK st0 bl0 l (.slice q d0 c)) 30)).alloc (.cells (refC zeros8 0 (.slice none 0 0)) 30) := ⟨_, rfl⟩
  have hsz : v0.heap.size = w.heap.size + 1 + 1 := by rw [hv0]; simp
  have HA0 : Hid (v0.heap[w.heap.size]? = some (.cells (refK st0 bl0 l (.slice q d0 c)) 30 (0, 0))) := Lib.hid (by
    rw [hv0, (MapKept.heap_alloc _ _).2 _ (by simp)]; exact (MapKept.heap_alloc w _).1)
  have HR0 : Hid (v0.heap[w.heap.size + 1]? = some (.cells (refC zeros8 0 (.slice none 0 0)) 30 (0, 0))) := Lib.hid (by
    have h := (MapKept.heap_alloc (w.alloc (.cells (refK st0 bl0 l (.slice q d0 c)) 30)) (.cells (refC zeros8 0 (.slice none 0 0)) 30)).1
    rw [← hv0] at h
    rw [show w.heap.size + 1 = (w.alloc (.cells (refK st0 bl0 l (.slice q d0 c)) 30)).heap.size by simp]
    exact h)
  have HG0 : Hid (Below w.heap.size w v0) := Lib.hid (by
    rw [hv0]; exact ((Below.refl _ w).alloc (Nat.le_refl _) _).alloc (by simp) _)
  have HCopy : Hid (Calls Tryd.prog 15 #[.agg (refK st0 bl0 l (.slice q d0 c))] v0 fun e w' => ∃ q' c', e = .returned (.agg (refK st0 bl0 l (.slice q' d0 c'))) ∧ w'.ownsRow v0.heap.size 5 1 (.slice q' d0 c') d0 (Go.Lib.byteCells (restL l)) ∧ Below v0.heap.size v0 w') := Lib.hid (by
    have h := refCopy_any (blocksI (l.length / 64) st0 l) (by rw [blocksI_length]; exact hs) (blk bl0 (l.length / 64)) q c (restL l) v0 hn ((hB.keep HG0.out).at HG0.out.size HG0.out.size) (by rw [restL_length]; omega)
    rw [hrl] at h
    exact h)
  have HV0 := Lib.hid hv0.symm
  have HSz := Lib.hid hsz
  rw [hd0, hnb]
  have hm' : nb ≤ 140737488353000 := by omega
  clear hs hC hB hn hrl hd0 hnb hv0 hsz hm
  go_enter Tryd.func68, Tryd.ntmps68
  go_wp2_with (first
    | (refine wpList_load_row rfl 30 (.tmp 2) rfl w.heap.size rfl 30 _ (0, 0) _ HA0.out Tryd.underlying30 rfl (HS10 _ _).out ?_)
    | (refine wpList_world HV0.out ?_))
  refine HCopy.out.mono ?_
  rintro e w1 ⟨q1, c1, rfl, ho1, hb1⟩
  have HA1 : Hid (w1.heap[w.heap.size]? = some (.cells (refK st0 bl0 l (.slice q d0 c)) 30 (0, 0))) := Lib.hid ((hb1.block _ (by rw [HSz.out]; omega)).trans HA0.out)
  have HR1 : Hid (w1.heap[w.heap.size + 1]? = some (.cells (refC zeros8 0 (.slice none 0 0)) 30 (0, 0))) := Lib.hid ((hb1.block _ (by rw [HSz.out]; omega)).trans HR0.out)
  have HG1 : Hid (Below w.heap.size w w1) := Lib.hid (HG0.out.trans (hb1.mono HG0.out.size))
  obtain ⟨w2, hw2⟩ : ∃ v, v = w1.setRow w.heap.size (refK st0 bl0 l (.slice q1 d0 c1)) := ⟨_, rfl⟩
  have HRW : Hid (RW w st0 bl0 l q1 c1 d0 w2) := Lib.hid ⟨by rw [hw2]; exact setRow_heap w1 _ _ _ _ _ HA1.out, by rw [hw2, setRow_other w1 _ _ _ (by omega)]; exact HR1.out, by
      rw [hw2]; rw [HSz.out] at ho1; exact owns_setRow ho1 (by omega) _, by
      rw [hw2]; exact HG1.out.trans ⟨rfl, rfl, rfl, by simp, fun j hj => setRow_other w1 _ j _ (by omega)⟩, HD0.out⟩
  have HW2 := Lib.hid hw2.symm
  clear hw2 ho1 hb1
  go_wp2_with (first
    | (refine wpList_store_row rfl 30 (.tmp 2) (.tmp 9) rfl w.heap.size (refK st0 bl0 l (.slice q1 d0 c1)) rfl rfl 30 _ HA1.out (HS10 _ _).out (HOK _ _).out (H1 _ _ _ _).out ?_)
    | (refine wpList_world HW2.out ?_))
  rw [HW2.out]
  clear HA1 HR1 HG1 HW2 HA0 HR0 HG0 HCopy HV0 HSz
  have HX : Hid (∃ i : Nat, Value.int .i64 0 = .int .i64 i ∧ i ≤ nb ∧ Hid (∃ q c d, RW w st0 bl0 (l ++ b.take i) q c d w2)) := Lib.hid ⟨0, rfl, Nat.zero_le _, Lib.hid ⟨q1, c1, d0, by rw [List.take_zero, List.append_nil]; exact HRW.out⟩⟩
  clear HRW
  go_loopw [5] (fun v wr => ∃ i : Nat, v = .int .i64 i ∧ i ≤ nb ∧ Hid (∃ q c d, RW w st0 bl0 (l ++ b.take i) q c d wr)) (fun v _ => nb - (RowKit.intOf v).toNat)
  case atStart => exact HX.out
  case round =>
    clear HX
    obtain ⟨i, rfl, hi, hrw⟩ := hrel
    obtain ⟨q2, c2, d, hR⟩ := hrw.out
    have HR := Lib.hid hR
    clear hrw
    by_cases hlt : i < nb
    · obtain ⟨pb, off, hp, hpb, -, hcl⟩ := HCC.out (by intro e; have := HNB.out; rw [e] at this; simp at this; omega)
      subst hp
      have hxl : i < b.length := by rw [HNB.out]; exact hlt
      obtain ⟨x, hx⟩ : ∃ x, b[i] = x := ⟨_, rfl⟩
      have cx : wr.cell? ⟨pb, off + i, none⟩ = some (.int .u8 x.toNat) := by rw [hR.g.cell (p := ⟨pb, off + i, none⟩) hpb, hcl i hxl, hx]
      have HLs : Hid (l ++ b.take (i + 1) = (l ++ b.take i) ++ [x]) := Lib.hid (by rw [List.take_succ_eq_append_getElem hxl, hx, List.append_assoc])
      obtain ⟨L, hL⟩ : ∃ L, l ++ b.take i = L := ⟨_, rfl⟩
      rw [hL] at hR HR HLs
      have hdl := hR.dl
      have hd64 : d < 64 := by omega
      have c9 : wr.cell? ⟨w.heap.size, 9, none⟩ = some (.slice q2 d c2) := by rw [Go.Joins.cell_of_block hR.h]; exact refK_rest st0 HST.out _ _ _
      have hin : (i : Int) < (nb : Int) := by omega
      have hdi : decide ((i : Int) < (nb : Int)) = true := decide_eq_true hin
      obtain ⟨v4, hv4⟩ : ∃ v, v = wr.drew.alloc (.cells (Go.Lib.byteCells [x]).toArray 5) := ⟨_, rfl⟩
      have HG4 : Hid (Below wr.heap.size wr v4) := Lib.hid (by rw [hv4]; exact (below_drawn 1 (Below.refl wr.heap.size wr)).alloc (Nat.le_refl _) _)
      have hRl : Below w.heap.size w v4 := hR.g.trans (HG4.out.mono hR.g.size)
      have HO4 : Hid (v4.ownsRow (w.heap.size + 1 + 1) 5 1 (.slice q2 d c2) d (Go.Lib.byteCells (restL L))) := Lib.hid (by
        exact owns_keeps hR.o (fun j _ hj => HG4.out.block j hj))
      have HL4 : Hid (Bytes v4.heap.size v4.heap.size (some ⟨wr.heap.size, 0, none⟩) [x] v4) := Lib.hid (by rw [hv4]; exact lit_bytes wr.drew [x])
      have c9v : v4.cell? ⟨w.heap.size, 9, none⟩ = some (.slice q2 d c2) := (HG4.out.cell (p := ⟨w.heap.size, 9, none⟩) (by simp only; have := (Array.getElem?_eq_some_iff.1 hR.h).1; omega)).trans c9
      have HV4 := Lib.hid hv4.symm
      have HZ4 : Hid (w.heap.size + 1 + 1 ≤ v4.heap.size) := Lib.hid (by
        have h1 := HG4.out.size
        have h2 := (Array.getElem?_eq_some_iff.1 hR.r).1
        omega)
      obtain ⟨m, hmm⟩ : ∃ m, d + 1 = m := ⟨_, rfl⟩
      clear hL hx hxl hcl hv4 hR hRl
      go_wp2_with fail
      refine wp_region_any (by kernel_rfl) ?_
      refine wpAny_take (i := 0) (v := .pointer (some ⟨w.heap.size, 9, none⟩)) rfl (by kernel_rfl) (by kernel_rfl) (by kernel_rfl) (fun _ _ _ h => h) (Or.inl ⟨rfl, fun w => by go_simp⟩) ?_
      refine wpAny_take (i := 2) (v := .slice (some ⟨pb, off, none⟩) nb cap) rfl (by kernel_rfl) (by kernel_rfl) (by kernel_rfl) (fun _ _ _ h => h) (Or.inl ⟨rfl, fun w => by go_simp⟩) ?_
      refine wpAny_take (i := 3) (v := .int .i64 (i : Int)) rfl (by kernel_rfl) (by kernel_rfl) (by kernel_rfl) (fun _ _ _ h => h) (Or.inl ⟨rfl, fun w => by go_simp⟩) ?_
      refine wpAny_take (i := 4) (v := .pointer (some ⟨pb, off + i, none⟩)) rfl (by kernel_rfl) (by kernel_rfl) (by kernel_rfl) (fun _ _ _ h => h) (Or.inl ⟨rfl, fun w => by go_simp⟩) ?_
      simp only [Act.put, List.setIfInBounds_toArray]
      refine any_loads_build (w3 := v4) 1 5 6 _ _ _ (.slice q2 d c2) (.int .u8 x.toNat) (.slice (some ⟨wr.heap.size, 0, none⟩) 1 1) (by kernel_rfl) rfl rfl rfl (by kernel_rfl) (by kernel_rfl) (by kernel_rfl) (by kernel_rfl) (fun _ => rfl) (fun _ => rfl) (fun _ => rfl) (by go_simp) (by go_simp) (by go_simp) (by go_simp) (by go_simp; exact HV4.out) (by go_simp; exact HV4.out) (by go_simp) rfl rfl rfl rfl ?_
      simp only [Act.put]
      refine any_one 7 _ (by kernel_rfl) rfl rfl fun K hK => ?_
      refine wp_append_where (.tmp 17) (.tmp 22) rfl (w.heap.size + 1 + 1) _ d (restL L) rfl HO4.out ⟨wr.heap.size, 0, none⟩ 1 1 m [x] rfl rfl (by decide) _ _ HL4.out hmm (by omega) HZ4.out ?_
      intro q5 c5 w5 ho5 hg5'
      refine hK _ _ ?_
      clear hK K
      have hg5 : Below (w.heap.size + 1 + 1) v4 w5 := (Below.refl _ v4).grown hg5' HZ4.out (fun k hk => (HO4.out.lt k hk).1)
      have hga : Below (w.heap.size + 1 + 1) wr w5 := (HG4.out.mono (by have := HR.out.r; exact (Array.getElem?_eq_some_iff.1 this).1)).trans hg5
      have HO5 : Hid (w5.ownsRow (w.heap.size + 1 + 1) 5 1 (.slice q5 m c5) m (Go.Lib.byteCells (restL L ++ [x]))) := Lib.hid ho5
      have HH5 : Hid (w5.heap[w.heap.size]? = some (.cells (refK st0 bl0 L (.slice q2 d c2)) 30 (0, 0))) := Lib.hid ((hga.block _ (by omega)).trans HR.out.h)
      have HR5 : Hid (w5.heap[w.heap.size + 1]? = some (.cells (refC zeros8 0 (.slice none 0 0)) 30 (0, 0))) := Lib.hid ((hga.block _ (by omega)).trans HR.out.r)
      have HG5 : Hid (Below w.heap.size w w5) := Lib.hid (HR.out.g.trans (hga.mono (by omega)))
      have c9' : w5.cell? ⟨w.heap.size, 9, none⟩ = some (.slice q2 d c2) := by rw [Go.Joins.cell_of_block HH5.out]; exact refK_rest st0 HST.out _ _ _
      have f9' : w5.frozen? ⟨w.heap.size, 9, none⟩ = false := frozen_of_heap HH5.out 9
      clear hga hg5 hg5' ho5 c9 c9v cx HV4 HG4 HO4 HL4 HZ4
      obtain ⟨w6, hw6⟩ : ∃ v, v = w5.setCell ⟨w.heap.size, 9, none⟩ (.slice q5 m c5) := ⟨_, rfl⟩
      have HH6 : Hid (w6.heap[w.heap.size]? = some (.cells (refK st0 bl0 L (.slice q5 m c5)) 30 (0, 0))) := Lib.hid (by rw [hw6, Go.Joins.block_setCell HH5.out _, refK_set st0 HST.out])
      have HR6 : Hid (w6.heap[w.heap.size + 1]? = some (.cells (refC zeros8 0 (.slice none 0 0)) 30 (0, 0))) := Lib.hid (by rw [hw6, Below.heap_setCell _ _ _ _ (by simp only; omega)]; exact HR5.out)
      have HG6 : Hid (Below w.heap.size w w6) := Lib.hid (by rw [hw6]; exact HG5.out.setCell (by simp only; omega) _)
      have HO6 : Hid (w6.ownsRow (w.heap.size + 1 + 1) 5 1 (.slice q5 m c5) m (Go.Lib.byteCells (restL L ++ [x]))) := Lib.hid (by rw [hw6]; exact ownsRow_setCell_below HO5.out (by simp only; omega) _)
      have HV6 := Lib.hid hw6.symm
      refine wpAny_take (i := 8) (v := .pointer (some ⟨w.heap.size, 9, none⟩)) rfl (by kernel_rfl) (by kernel_rfl) (by kernel_rfl) (fun _ _ _ h => h) (Or.inl ⟨rfl, fun w => by go_simp⟩) ?_
      simp only [Act.put]
      refine any_one 9 _ (by kernel_rfl) rfl rfl fun K hK => ?_
      go_simp
      refine hK _ _ ?_
      clear hK K
      refine wpAny_done (by kernel_rfl) ?_ _
      rw [HV6.out]
      clear c9' f9'
      have c96 : w6.cell? ⟨w.heap.size, 9, none⟩ = some (.slice q5 m c5) := by rw [Go.Joins.cell_of_block HH6.out]; exact refK_rest st0 HST.out _ _ _
      clear hw6 HH5 HR5 HG5 HO5 HV6
      by_cases h63 : d < 63
      · have hm64 : ¬ (m : Int) = 64 := by omega
        have hdm : ((m : Int) == 64) = false := by simp; omega
        have HFin : Hid (RW w st0 bl0 (L ++ [x]) q5 c5 m w6) := Lib.hid ⟨by rw [refK_step st0 bl0 L x _ (by omega)]; exact HH6.out, HR6.out, by rw [restL_step L x (by omega)]; exact HO6.out, HG6.out, by rw [List.length_append, List.length_singleton]; omega⟩
        clear HH6 HR6 HG6 HO6 HR
        go_wp2_with fail
        go_roundw
        case rel => exact ⟨i + 1, by go_num, hlt, Lib.hid ⟨q5, c5, m, by rw [HLs.out]; exact HFin.out⟩⟩
        case measure => simp [RowKit.intOf]; omega
      · have hdm : ((m : Int) == 64) = true := by simp; omega
        obtain ⟨X, hX⟩ : ∃ X, restL L ++ [x] = X := ⟨_, rfl⟩
        have hXm : X.length = m := by rw [← hX, List.length_append, restL_length, hdl, List.length_singleton]; exact hmm
        have hXl : X.length = 64 := by omega
        have HX := Lib.hid hX
        rw [hX] at HO6
        have HXl := Lib.hid hXl
        obtain ⟨g5, cur5, hq5, hg5a, hg5b, hg5c, hg5d, hg5e⟩ := owns_some HO6.out hXm (by omega)
        subst hq5
        have HE5 := Lib.hid hg5e
        have HGlt := Lib.hid hg5b
        have HAlt : Hid (w.heap.size + 1 < w6.heap.size) := Lib.hid (Array.getElem?_eq_some_iff.1 HR6.out).1
        obtain ⟨v7, hv7⟩ : ∃ v, v = w6.alloc (.cells (Go.Lib.byteCells (fillB X 0)).toArray 112) := ⟨_, rfl⟩
        have HB7 : Hid (BW w6 X 0 v7) := Lib.hid ⟨by rw [hv7]; exact heap_last _ _, by rw [hv7]; exact (Below.refl _ _).alloc (Nat.le_refl _) _⟩
        have HV7 := Lib.hid hv7.symm
        have HXX : Hid (∃ k : Nat, Value.int .i64 0 = .int .i64 k ∧ k ≤ 64 ∧ Hid (BW w6 X k v7)) := Lib.hid ⟨0, rfl, Nat.zero_le _, HB7⟩
        obtain ⟨M, hM⟩ : ∃ M, w6.heap.size = M := ⟨_, rfl⟩
        have HM := Lib.hid hM
        rw [hM] at HGlt HAlt
        clear hX hXl hXm hg5a hg5b hg5c hg5d hg5e hv7 HB7
        go_wp2_with fail
        refine code_at HV7.out ?_
        clear hM
        obtain rfl : d = 63 := by omega
        obtain rfl : 64 = m := by omega
        obtain ⟨wq, hwq⟩ : ∃ wq : World, wq = v7 := ⟨_, rfl⟩
        rw [← hwq] at HXX ⊢
        clear hwq HV7
        go_loopw [7] (fun v wr => ∃ k : Nat, v = .int .i64 k ∧ k ≤ 64 ∧ Hid (BW w6 X k wr)) (fun v _ => 64 - (RowKit.intOf v).toNat)
        case atStart => exact HXX.out
        case round =>
          clear HXX
          obtain ⟨k, rfl, hk, hbw⟩ := hrel
          have c97 : wr.cell? ⟨w.heap.size, 9, none⟩ = some (.slice (some ⟨g5, 0, none⟩) 64 c5) := (hbw.out.g.cell (p := ⟨w.heap.size, 9, none⟩) (by rw [HM.out]; simp only; have := HAlt.out; omega)).trans c96
          by_cases hlk : k < 64
          · have hdk : decide ((k : Int) < 64) = true := decide_eq_true (by omega)
            have hk64 : (k : Int) < 64 := by omega
            have hkX : k < X.length := by rw [HXl.out]; exact hlk
            obtain ⟨z, hz⟩ : ∃ z, X[k] = z := ⟨_, rfl⟩
            have cz : wr.cell? ⟨g5, k, none⟩ = some (.int .u8 z.toNat) := (hbw.out.g.cell (p := ⟨g5, k, none⟩) (by rw [HM.out]; exact HGlt.out)).trans (by rw [HE5.out k hkX, hz])
            have HBk : Hid (wr.heap[M]? = some (.cells (Go.Lib.byteCells (fillB X k)).toArray 112 (0, 0))) := Lib.hid (by rw [← HM.out]; exact hbw.out.b)
            have hfl : k < (fillB X k).length := by rw [fillB_length X HXl.out k hk]; exact hlk
            have ck : wr.cell? ⟨M, k, none⟩ = some (.int .u8 (fillB X k)[k].toNat) := by
              rw [cell_of_heap HBk.out]
              simp [Go.Lib.byteCells, List.getElem?_eq_getElem hfl]
            have fk : wr.frozen? ⟨M, k, none⟩ = false := frozen_of_heap HBk.out k
            generalize (fillB X k)[k].toNat = y at ck
            have HN8 : Hid (BW w6 X (k + 1) (wr.setCell ⟨M, k, none⟩ (.int .u8 z.toNat))) := Lib.hid ⟨by
              rw [HM.out, Go.Joins.block_setCell HBk.out _, ← fillB_step X HXl.out k hlk, hz, ← bc_set, List.setIfInBounds_toArray], by
              rw [HM.out]; have h := hbw.out.g; rw [HM.out] at h; exact h.setCell (Nat.le_refl _) _⟩
            clear hbw hz hfl hkX
            go_wp2_with fail
            go_roundw
            case rel => exact ⟨k + 1, by go_num, hlk, HN8⟩
            case measure => simp [RowKit.intOf]; omega
          · obtain rfl : k = 64 := by omega
            have HBk : Hid (wr.heap[M]? = some (.cells (cells8 (bI X)) 112 (0, 0))) := Lib.hid (by have h := hbw.out.b; rw [fillB_all X HXl.out, HM.out] at h; rw [cells8_bI]; exact h)
            have HGb : Hid (Below M w6 wr) := Lib.hid (by rw [← HM.out]; exact hbw.out.g)
            obtain ⟨S, hS⟩ : ∃ S, blocksI (L.length / 64) st0 L = S := ⟨_, rfl⟩
            have hSl : S.length = 8 := by rw [← hS, blocksI_length]; exact HST.out
            obtain ⟨B, hB⟩ : ∃ B, blk bl0 (L.length / 64) = B := ⟨_, rfl⟩
            have HH7 : Hid (wr.heap[w.heap.size]? = some (.cells (refC S B (.slice (some ⟨g5, 0, none⟩) 64 c5)) 30 (0, 0))) := Lib.hid (by
              rw [← hS, ← hB]; exact (HGb.out.block _ (by have := HAlt.out; omega)).trans HH6.out)
            have HRg : Hid (wr.rangeAt w.heap.size 0 (S.map (Value.int .u32))) := Lib.hid (refC_range HH7.out)
            have HR7 : Hid (wr.heap[w.heap.size + 1]? = some (.cells (refC zeros8 0 (.slice none 0 0)) 30 (0, 0))) := Lib.hid ((HGb.out.block _ HAlt.out).trans HR6.out)
            have HG7 : Hid (Below w.heap.size w wr) := Lib.hid (HG6.out.trans (HGb.out.mono (by have := HAlt.out; omega)))
            have HI8 : Hid ((Tryd.prog.info? 26).map (·.size) = some (S.map (Value.int .u32)).length) := Lib.hid (by rw [List.length_map, hSl]; exact sizeState)
            have HI64 : Hid ((Tryd.prog.info? 112).map (·.size) = some (cells8 (bI X)).size) := Lib.hid (by rw [cells8_size, bI_length, HXl.out]; exact sizeBlock)
            have HRound := Lib.hid (fun w => refRound_any S (bI X) hSl (by rw [bI_length]; exact HXl.out) (bI_range X) w)
            obtain ⟨Fi, hFi⟩ : ∃ Fi, roundI S (bI X) = Fi := ⟨_, rfl⟩
            have hFl : Fi.length = 8 := by rw [← hFi, roundI_length]; exact hSl
            rw [hFi] at HRound
            have HFI : Hid (∀ v, refK st0 bl0 (L ++ [x]) v = refC Fi ((B + 1) % 18446744073709551616) v) := Lib.hid (fun v => by rw [refK_full st0 bl0 L x v hdl, hS, hB, HX.out, hFi])
            have HSl := Lib.hid hSl
            have HFl := Lib.hid hFl
            obtain ⟨Y, hY⟩ : ∃ Y, cells8 (bI X) = Y := ⟨_, rfl⟩
            rw [hY] at HBk HI64 HRound
            have HDX : Hid ((L ++ [x]).length % 64 = 0) := Lib.hid (by rw [List.length_append, List.length_singleton]; omega)
            have HRX : Hid (restL (L ++ [x]) = []) := Lib.hid (restL_full L x hdl)
            clear hS hB hFi hSl hFl hY hbw hlk hk c97
            go_wp2_with (first
              | (refine wpList_load_mid rfl 26 (.tmp 40) rfl w.heap.size 0 rfl (S.map (Value.int .u32)) _ HRg.out Tryd.underlying26 rfl HI8.out ?_)
              | (refine wpList_load_row rfl 112 (.tmp 6) rfl M rfl 112 _ (0, 0) _ HBk.out Tryd.underlying112 rfl HI64.out ?_))
            refine (HRound.out _).mono ?_
            rintro e w8 ⟨rfl, hb8⟩
            have HH8 : Hid (w8.heap[w.heap.size]? = some (.cells (refC S B (.slice (some ⟨g5, 0, none⟩) 64 c5)) 30 (0, 0))) := Lib.hid ((hb8.block _ (Array.getElem?_eq_some_iff.1 HH7.out).1).trans HH7.out)
            have HR8 : Hid (w8.heap[w.heap.size + 1]? = some (.cells (refC zeros8 0 (.slice none 0 0)) 30 (0, 0))) := Lib.hid ((hb8.block _ (Array.getElem?_eq_some_iff.1 HR7.out).1).trans HR7.out)
            have HG8 : Hid (Below w.heap.size w w8) := Lib.hid (HG7.out.trans (hb8.mono HG7.out.size))
            obtain ⟨w9, hw9⟩ : ∃ v, v = w8.setRow w.heap.size (splice (refC S B (.slice (some ⟨g5, 0, none⟩) 64 c5)).toList 0 (cells32 Fi).toList).toArray := ⟨_, rfl⟩
            have HH9 : Hid (w9.heap[w.heap.size]? = some (.cells (refC Fi B (.slice (some ⟨g5, 0, none⟩) 64 c5)) 30 (0, 0))) := Lib.hid (by rw [hw9, setRow_heap w8 _ _ _ _ _ HH8.out, refC_splice S Fi HSl.out HFl.out])
            have HR9 : Hid (w9.heap[w.heap.size + 1]? = some (.cells (refC zeros8 0 (.slice none 0 0)) 30 (0, 0))) := Lib.hid (by rw [hw9, setRow_other w8 _ _ _ (by omega)]; exact HR8.out)
            have HG9 : Hid (Below w.heap.size w w9) := Lib.hid (by rw [hw9]; exact HG8.out.trans ⟨rfl, rfl, rfl, by simp, fun j hj => setRow_other w8 _ j _ (by omega)⟩)
            have HV9 := Lib.hid hw9.symm
            have HIf : Hid ((Tryd.prog.info? 26).map (·.size) = some (cells32 Fi).size) := Lib.hid (by rw [cells32_size, HFl.out]; exact sizeState)
            have HFit : Hid (0 + (cells32 Fi).size ≤ (refC S B (.slice (some ⟨g5, 0, none⟩) 64 c5)).size) := Lib.hid (by rw [cells32_size, HFl.out, refC_size S HSl.out]; decide)
            have HOn := Lib.hid (cells32_one Fi)
            have c8 : w9.cell? ⟨w.heap.size, 8, none⟩ = some (.int .u64 B) := by rw [Go.Joins.cell_of_block HH9.out]; exact refC_bl Fi HFl.out _ _
            have f8 : w9.frozen? ⟨w.heap.size, 8, none⟩ = false := frozen_of_heap HH9.out 8
            have HHa : Hid ((w9.setCell ⟨w.heap.size, 8, none⟩ (.int .u64 ((B + 1) % 18446744073709551616))).heap[w.heap.size]? = some (.cells (refC Fi ((B + 1) % 18446744073709551616) (.slice (some ⟨g5, 0, none⟩) 64 c5)) 30 (0, 0))) := Lib.hid (by rw [Go.Joins.block_setCell HH9.out _, refC_set8 Fi HFl.out])
            obtain ⟨wa, hwa⟩ : ∃ v, v = w9.setCell ⟨w.heap.size, 8, none⟩ (.int .u64 ((B + 1) % 18446744073709551616)) := ⟨_, rfl⟩
            rw [← hwa] at HHa
            have HRa : Hid (wa.heap[w.heap.size + 1]? = some (.cells (refC zeros8 0 (.slice none 0 0)) 30 (0, 0))) := Lib.hid (by rw [hwa, Below.heap_setCell _ _ _ _ (by simp only; omega)]; exact HR9.out)
            have HGa : Hid (Below w.heap.size w wa) := Lib.hid (by rw [hwa]; exact HG9.out.setCell (by simp only; omega) _)
            have HVa := Lib.hid hwa.symm
            have ca9 : wa.cell? ⟨w.heap.size, 9, none⟩ = some (.slice (some ⟨g5, 0, none⟩) 64 c5) := by rw [Go.Joins.cell_of_block HHa.out]; exact refC_rest Fi HFl.out _ _
            have fa9 : wa.frozen? ⟨w.heap.size, 9, none⟩ = false := frozen_of_heap HHa.out 9
            obtain ⟨wb, hwb⟩ : ∃ v, v = wa.setCell ⟨w.heap.size, 9, none⟩ (.slice none 0 0) := ⟨_, rfl⟩
            have HFin : Hid (RW w st0 bl0 (L ++ [x]) none 0 0 wb) := Lib.hid ⟨by rw [HFI.out, hwb, Go.Joins.block_setCell HHa.out _, refC_set Fi HFl.out], by rw [hwb, Below.heap_setCell _ _ _ _ (by simp only; omega)]; exact HRa.out, by rw [HRX.out]; exact World.ownsRow_nil _ _ _ _, by rw [hwb]; exact HGa.out.setCell (by simp only; omega) _, HDX.out⟩
            have HVb := Lib.hid hwb.symm
            clear hb8 hw9 hwa hwb HH9 HR9 HG9 HR8 HG8 HHa HRa HGa
            go_wp2_with (first
              | (refine wpList_store_at rfl 26 (.tmp 44) (.tmp 43) rfl w.heap.size 0 (cells32 Fi) rfl rfl 30 _ HH8.out HIf.out HFit.out HOn.out ?_)
              | (refine wpList_world HV9.out ?_) | (refine wpList_world HVa.out ?_) | (refine wpList_world HVb.out ?_))
            go_roundw
            case rel => exact ⟨i + 1, by go_num, hlt, Lib.hid ⟨none, 0, 0, by rw [HLs.out]; exact HFin.out⟩⟩
            case measure => simp [RowKit.intOf]; omega
    · obtain rfl : nb = i := by omega
      have hbl : b.take nb = b := List.take_of_length_le (by rw [HNB.out]; exact Nat.le_refl _)
      rw [hbl] at hR HR
      have hdi : decide ((nb : Int) < (nb : Int)) = false := decide_eq_false (by omega)
      have HDL := Lib.hid hR.dl
      have HRh := Lib.hid hR.h
      have HRr := Lib.hid hR.r
      have HRo := Lib.hid hR.o
      have HRg := Lib.hid hR.g
      clear hlt hi hR hbl HR
      go_wp2_with (first
        | (refine wpList_load_row rfl 30 (.tmp 2) rfl w.heap.size rfl 30 _ (0, 0) _ HRh.out Tryd.underlying30 rfl (HS10 _ _).out ?_)
        | (refine wpList_store_row rfl 30 (.tmp 4) (.tmp 50) rfl (w.heap.size + 1) (refK st0 bl0 (l ++ b) (.slice q2 d c2)) rfl rfl 30 _ HRr.out (HS10 _ _).out (HO _ _).out (H1 _ _ _ _).out ?_))
      exact bodyPost_ret (results_cell_row rfl _ _ (w.heap.size + 1) 30 (refK st0 bl0 (l ++ b) (.slice q2 d c2)) (0, 0) _ rfl (setRow_heap wr _ _ _ _ _ HRr.out) Tryd.underlying30 rfl (HS10 _ _).out) rfl
        ⟨q2, c2, by rw [HDL.out], by rw [HDL.out]; exact Go.Joins.ownsRow_le (owns_setRow HRo.out (by omega) _) (by omega), HRg.out.trans (⟨rfl, rfl, rfl, by simp, fun j hj => setRow_other wr _ j _ (by omega)⟩ : Below w.heap.size wr (wr.setRow (w.heap.size + 1) (refK st0 bl0 (l ++ b) (.slice q2 d c2))))⟩
end Go.Proofs.YtjjahcidncnogaaDoor
