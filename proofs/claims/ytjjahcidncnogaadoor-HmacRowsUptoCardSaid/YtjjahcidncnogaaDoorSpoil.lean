/- spoil writes into an answer and grows it: only the answer's block changes. -/
import Derived.Test.YtjjahcidncnogaaDoorMacEqL
import Derived.Test.YtjjahcidncnogaaDoorShaFreshA
import Derived.Lib.AppendZerosOnto
namespace Go.Proofs.YtjjahcidncnogaaDoor
open Go.ChangeShapes Go.WideShapes Go.ChangeAt Go.RowKit Go.Lib

def blkOf (q : Option Addr) : Option Nat := q.map Addr.block
theorem ownBlock_slice (q : Option Addr) (n c : Nat) : (Value.slice q n c).ownBlock = blkOf q := by cases q <;> rfl
/-- A row of bytes with its whole block. -/
def Rm (w : World) (q : Option Addr) (c : Nat) : Prop := (q = none ∧ c = 0) ∨ ∃ g cur, q = some ⟨g, 0, none⟩ ∧ w.heap[g]? = some (.cells cur 5 (0, 0)) ∧ cur.size = c
theorem rm_owns {w : World} {B n c : Nat} {q : Option Addr} {xs : List Value} (h : w.ownsRow B 5 1 (.slice q n c) n xs) : Rm w q c := by
  rcases h.2 with ⟨hv, _⟩ | ⟨g, cap, cur, hv, _, hg, _, _, hs, _⟩
  · simp only [Value.slice.injEq] at hv
    exact .inl ⟨hv.1, hv.2.2⟩
  · simp only [Value.slice.injEq] at hv
    obtain ⟨rfl, -, rfl⟩ := hv
    exact .inr ⟨g, cur, rfl, hg, by omega⟩
theorem rm_kept {w w' : World} {q : Option Addr} {c : Nat} (h : Rm w q c) (hk : ∀ k, k < w.heap.size → w'.heap[k]? = w.heap[k]?) : Rm w' q c := by
  rcases h with h | ⟨g, cur, rfl, hg, hs⟩
  · exact .inl h
  · exact .inr ⟨g, cur, rfl, (hk g (Array.getElem?_eq_some_iff.1 hg).1).trans hg, hs⟩
theorem rm_changed {w w' : World} {g : Nat} {cur cs : Array Value} (hg : w.heap[g]? = some (.cells cur 5 (0, 0))) (hg' : w'.heap[g]? = some (.cells cs 5 (0, 0))) (hs : cs.size = cur.size) (ho : ∀ k, k < w.heap.size → k ≠ g → w'.heap[k]? = w.heap[k]?) {q : Option Addr} {c : Nat} (h : Rm w q c) : Rm w' q c := by
  rcases h with h | ⟨g2, cur2, rfl, hg2, hs2⟩
  · exact .inl h
  · by_cases e : g2 = g
    · subst e
      rw [hg] at hg2
      simp only [Option.some.injEq, Obj.cells.injEq] at hg2
      obtain ⟨rfl, -⟩ := hg2
      exact .inr ⟨g2, cs, rfl, hg', by omega⟩
    · exact .inr ⟨g2, cur2, rfl, (ho g2 (Array.getElem?_eq_some_iff.1 hg2).1 e).trans hg2, hs2⟩
theorem gby_then {a b c : World} {row row' : Option Nat} (h : a.grownBy b row) (k : b.grownBy c row') (hr : ∀ j, row' = some j → a.heap.size ≤ j ∨ row = some j) : a.grownBy c row :=
  ⟨k.os.trans h.os, k.tape.trans h.tape, k.output.trans h.output, Nat.le_trans h.size k.size, fun i hi hne => (k.block i (Nat.lt_of_lt_of_le hi h.size) (fun e => by
    rcases hr i e.symm with h1 | h1
    · omega
    · exact hne h1.symm)).trans (h.block i hi hne)⟩
theorem gby_set {a b : World} {g i : Nat} (h : a.grownBy b (some g)) (v : Value) : a.grownBy (b.setCell ⟨g, i, none⟩ v) (some g) :=
  gby_then h ⟨rfl, rfl, rfl, by simp, fun k _ hne => heap_setCell_other b ⟨g, i, none⟩ k v (fun e => hne (by rw [e]))⟩ (fun j hj => .inr hj)
theorem gby_below {w w' : World} {B : Nat} {r : Option Nat} (h : w.grownBy w' r) (hB : B ≤ w.heap.size) (hr : ∀ k, r = some k → B ≤ k) : Below B w w' := (Below.refl _ w).grown h hB hr

/-- What an append leaves. -/
def App (w : World) (q : Option Addr) (m : Nat) (q' : Option Addr) (c' : Nat) (w' : World) : Prop :=
  Rm w' q' c' ∧ m ≤ c' ∧ q' ≠ none ∧ (∀ q2 c2, Rm w q2 c2 → Rm w' q2 c2) ∧ w.grownBy w' (blkOf q) ∧ (blkOf q' = blkOf q ∨ ∃ k, blkOf q' = some k ∧ w.heap.size ≤ k)
theorem app_new {w : World} {q : Option Addr} {m cap : Nat} {cs : Array Value} (hm : m ≤ cap) (hs : cs.size = cap) : App w q m (some ⟨w.heap.size, 0, none⟩) cap (w.drew.alloc (.cells cs 5)) :=
  ⟨.inr ⟨w.heap.size, cs, rfl, heap_alloc_new w.drew _, hs⟩, hm, by simp, fun _ _ h => rm_kept h (fun k hk => heap_alloc_old w.drew _ hk), ⟨rfl, rfl, rfl, by simp, fun k hk _ => heap_alloc_old w.drew _ hk⟩, .inr ⟨w.heap.size, rfl, Nat.le_refl _⟩⟩
theorem app_same {w : World} {g m : Nat} {cur cs : Array Value} (hg : w.heap[g]? = some (.cells cur 5 (0, 0))) (hs : cs.size = cur.size) (hm : m ≤ cur.size) : App w (some ⟨g, 0, none⟩) m (some ⟨g, 0, none⟩) cur.size (w.setRow g cs) :=
  ⟨.inr ⟨g, cs, rfl, setRow_heap w g cur _ _ _ hg, hs⟩, hm, by simp, fun _ _ h => rm_changed hg (setRow_heap w g cur _ _ _ hg) hs (fun k _ hk => setRow_other w g k _ hk) h,
    ⟨rfl, rfl, rfl, by simp, fun k _ hk => setRow_other w g k _ (fun e => hk (by rw [e]; rfl))⟩, .inl rfl⟩
theorem row_cells {w : World} {g n : Nat} {cur : Array Value} (hg : w.heap[g]? = some (.cells cur 5 (0, 0))) : ∀ j u, (cur.toList.take n)[j]? = some u → w.cell? ((⟨g, 0, none⟩ : Addr).add j) = some u := by
  intro j u hj
  rw [Addr.add_lit, cell_of_row w g _ cur _ (0, 0) hg]
  rw [List.getElem?_take] at hj
  split at hj
  · simpa using hj
  · cases hj
theorem zeros_one (z : Value) (k : Nat) : (Builtin.zeroCells #[z] k).toList = List.replicate k z := by
  apply List.ext_getElem
  · simp [Builtin.zeroCells]
  · intro i h1 h2
    simp [Builtin.zeroCells, Nat.mod_one]
theorem rm_append (w : World) (q : Option Addr) (n c : Nat) (h : Rm w q c) (hn : n ≤ c) (ad : Addr) (x : Value) (hx : w.cell? ad = some x) (h1 : x.oneCell' = true) (hb : n + 1 ≤ 140737488355328) :
    ∃ q' c' w', (∀ ty, (Builtin.append_ #[28, 28] ty #[.slice q n c, .slice (some ad) 1 1]).run Tryd.prog w = .ok (.slice q' (n + 1) c') w') ∧ App w q (n + 1) q' c' w' := by
  obtain ⟨i0, hi, hz0, hz1, hz2⟩ := info_parts infoByte
  have hnews : ∀ j u, [x][j]? = some u → w.cell? (ad.add j) = some u := by
    intro j u hj
    cases j with
    | zero =>
      have e : ad.add 0 = ad := by cases ad; rfl
      simp at hj
      rw [e, hx, hj]
    | succ j => simp at hj
  have hl : [x].length = 1 * i0.size := by rw [hz1]; rfl
  rcases h with ⟨rfl, rfl⟩ | ⟨g, cur, rfl, hg, rfl⟩
  · obtain rfl : n = 0 := by omega
    refine ⟨_, _, _, fun ty => run_append_nil (P := Tryd.prog) w 28 ty 5 i0 (.int .u8 0) Tryd.underlying28 hi hz0 ad 1 1 [x] hl hnews (by omega) (by omega) (by rw [hz2]; omega), ?_⟩
    have hge := grownCap_ge w 1 0 5
    exact app_new hge (by rw [Array.size_append, size_zeroCells]; simp [Value.cells]; omega)
  · by_cases hroom : n + 1 ≤ cur.size
    · refine ⟨_, _, _, fun ty => run_append_room (P := Tryd.prog) w 28 ty 5 i0 Tryd.underlying28 hi g n cur.size cur hg ad 1 1 [x] hl hnews (by simpa using h1) hroom (by rw [hz1]; simp; omega), ?_⟩
      exact app_same hg (by simp [hz1]; omega) hroom
    · have hge := grownCap_ge w (n + 1) cur.size 5
      refine ⟨_, _, _, fun ty => run_append_grow (P := Tryd.prog) w 28 ty 5 i0 (.int .u8 0) Tryd.underlying28 hi hz0 ⟨g, 0, none⟩ n cur.size (cur.toList.take n) (by rw [hz1]; simp; omega) (row_cells hg) ad 1 1 [x] hl hnews (by omega) (by omega) (growslice_fits (by omega) (by rw [hz2]; omega)), ?_⟩
      exact app_new hge (by rw [Array.size_append, Array.size_append, size_zeroCells]; simp [Value.cells]; omega)
theorem rm_zeros (w : World) (q : Option Addr) (n c : Nat) (h : Rm w q c) (hn : n ≤ c) (hb : n + 70 ≤ 140737488355328) :
    ∃ q' c' w', (∀ ty, (Builtin.append_ #[28, 3] ty #[.slice q n c, .int .i64 70]).run Tryd.prog w = .ok (.slice q' (n + 70) c') w') ∧ App w q (n + 70) q' c' w' := by
  obtain ⟨i0, hi, hz0, hz1, hz2⟩ := info_parts infoByte
  rcases h with ⟨rfl, rfl⟩ | ⟨g, cur, rfl, hg, rfl⟩
  · obtain rfl : n = 0 := by omega
    refine ⟨_, _, _, fun ty => run_append_nil_zeros (P := Tryd.prog) w 28 3 ty 5 i0 (.int .u8 0) .i64 .i64 Tryd.underlying28 Tryd.underlying3 hi hz0 70 (by omega) (by omega) (by omega) (by rw [hz2]; omega), ?_⟩
    have hge := grownCap_ge w 70 0 5
    exact app_new hge (by rw [Array.size_append, size_zeroCells, size_zeroCells]; simp [Value.cells]; omega)
  · by_cases hroom : n + 70 ≤ cur.size
    · obtain ⟨Z, hZ⟩ : ∃ Z, List.replicate 70 (Value.int .u8 0) = Z := ⟨_, rfl⟩
      have hz : (Builtin.zeroCells (Value.int .u8 0).cells 70).toList = Z := by rw [← hZ]; exact zeros_one _ _
      have hZl : Z.length = 70 := by rw [← hZ, List.length_replicate]
      have hZ1 : ∀ v ∈ Z, v.oneCell' = true := fun v hv => by
        rw [← hZ] at hv
        rw [List.eq_of_mem_replicate hv]
        rfl
      have hst := run_storeCells_at Tryd.prog g n 5 Z 0 cur w hg (by omega) hZ1
      simp only [Nat.add_zero] at hst
      rw [hZl] at hst
      refine ⟨_, _, _, fun ty => ?_, app_same (cs := (cur.toList.take n ++ Z ++ cur.toList.drop (n + 70)).toArray) hg (by simp; omega) hroom⟩
      have hw : IntKind.i64.wrap 70 = 70 := by rw [IntKind.wrap_i64]; omega
      clear hZ hZl hZ1
      simp [Builtin.append_, run_underlying Tryd.underlying28, run_underlying Tryd.underlying3, sizeOf, typeInfo, zeroValue, hi, hz0, hz1, hz2, asInt, asIntOf, hw, hroom, hz, Addr.add_lit, hst]
    · have hge := grownCap_ge w (n + 70) cur.size 5
      have hold : (Builtin.firstCells i0.size n (.slice (some ⟨g, 0, none⟩) n cur.size)).run Tryd.prog w.drew = .ok (cur.toList.take n).toArray w.drew :=
        run_firstCells_some (P := Tryd.prog) w.drew i0.size n ⟨g, 0, none⟩ n cur.size (cur.toList.take n) (by rw [hz1]; simp; omega) (row_cells (w := w.drew) hg)
      refine ⟨_, _, _, fun ty => run_append_grow_zeros (P := Tryd.prog) w 28 3 ty 5 i0 (.int .u8 0) .i64 .i64 Tryd.underlying28 Tryd.underlying3 hi hz0 (some ⟨g, 0, none⟩) n cur.size (cur.toList.take n) hold 70 (by omega) (by omega) (by omega) (by omega) (by rw [hz2]; omega) (growslice_fits (by omega) (by rw [hz2]; omega)), ?_⟩
      exact app_new hge (by rw [Array.size_append, Array.size_append, size_zeroCells, size_zeroCells]; simp [Value.cells]; omega)

set_option maxRecDepth 100000 in
set_option maxHeartbeats 8000000 in
theorem spoil_any (q : Option Addr) (n c : Nat) (x : Int) (w : World) (h : Rm w q c) (hn : n ≤ c) (hb : n ≤ 140737488351232) :
    Calls Tryd.prog 40 #[.slice q n c, .int .u8 x] w fun e w' => e = .returned (.tuple #[]) ∧ w.grownBy w' (blkOf q) := by
  have HN := Lib.hid hn
  have HB := Lib.hid hb
  have HX : Hid (∃ i : Nat, Value.int .i64 0 = .int .i64 (i : Int) ∧ i ≤ n ∧ Hid (Rm w q c) ∧ Hid (w.grownBy w (blkOf q))) := Lib.hid
    ⟨0, rfl, by omega, Lib.hid h, Lib.hid ⟨rfl, rfl, rfl, Nat.le_refl _, fun _ _ _ => rfl⟩⟩
  clear h hn
  go_enter Tryd.func40, Tryd.ntmps40
  go_wp2_with fail
  go_loopw [9] (fun u wr => ∃ i : Nat, u = .int .i64 (i : Int) ∧ i ≤ n ∧ Hid (Rm wr q c) ∧ Hid (w.grownBy wr (blkOf q))) (fun u _ => n - (RowKit.intOf u).toNat)
  case atStart => exact HX.out
  case round =>
    clear HX
    obtain ⟨i, rfl, hi, hr, hg⟩ := hrel
    by_cases hlt : i < n
    · have hd : decide ((i : Int) < (n : Int)) = true := decide_eq_true (by omega)
      have hti : (i : Int) < (n : Int) := by omega
      have hnn : ¬ (n : Int) ≤ (i : Int) := by omega
      obtain ⟨g, cur, rfl, hgc, hs⟩ : ∃ g cur, q = some ⟨g, 0, none⟩ ∧ wr.heap[g]? = some (.cells cur 5 (0, 0)) ∧ cur.size = c := by
        rcases hr.out with ⟨rfl, rfl⟩ | h
        · have := HN.out; omega
        · exact h
      have hic : i < cur.size := by have := HN.out; omega
      obtain ⟨y, c1⟩ : ∃ y, wr.cell? ⟨g, i, none⟩ = some y := ⟨cur[i], by
        rw [cell_of_heap hgc]
        exact Array.getElem?_eq_getElem hic⟩
      have f1 : wr.frozen? ⟨g, i, none⟩ = false := frozen_of_heap hgc _
      have HR : Hid (Rm (wr.setCell ⟨g, i, none⟩ (.int .u8 x)) (some ⟨g, 0, none⟩) c) := Lib.hid (.inr ⟨g, _, rfl, Go.Joins.block_setCell hgc _, by simpa using hs⟩)
      have HG : Hid (w.grownBy (wr.setCell ⟨g, i, none⟩ (.int .u8 x)) (blkOf (some ⟨g, 0, none⟩))) := Lib.hid (gby_set hg.out _)
      clear hr hg hgc hs hic
      go_wp2_with fail
      go_roundw
      case rel => exact ⟨i + 1, by go_num, hlt, HR, HG⟩
      case measure => simp [RowKit.intOf]; omega
    · obtain rfl : i = n := by omega
      have hti : ¬ (i : Int) < (i : Int) := by omega
      have HX2 : Hid (∃ (k : Nat) (q2 : Option Addr) (c2 : Nat), Value.slice q i c = .slice q2 (i + k) c2 ∧ Value.int .i64 0 = .int .i64 (k : Int) ∧ k ≤ 20 ∧ i + k ≤ c2 ∧ Hid (Rm wr q2 c2) ∧ Hid (Rm wr q c) ∧ Hid (w.grownBy wr (blkOf q)) ∧ Hid (blkOf q2 = blkOf q ∨ ∃ k, blkOf q2 = some k ∧ w.heap.size ≤ k)) := Lib.hid
        ⟨0, q, c, rfl, rfl, by decide, HN.out, hr, hr, hg, Lib.hid (.inl rfl)⟩
      clear hr hg hlt hi
      go_wp2_with fail
      clear hti
      go_loopw [5, 6] (fun s u wr => ∃ (k : Nat) (q2 : Option Addr) (c2 : Nat), s = .slice q2 (i + k) c2 ∧ u = .int .i64 (k : Int) ∧ k ≤ 20 ∧ i + k ≤ c2 ∧ Hid (Rm wr q2 c2) ∧ Hid (Rm wr q c) ∧ Hid (w.grownBy wr (blkOf q)) ∧ Hid (blkOf q2 = blkOf q ∨ ∃ k, blkOf q2 = some k ∧ w.heap.size ≤ k)) (fun _ u _ => 20 - (RowKit.intOf u).toNat)
      case atStart => exact HX2.out
      case round =>
        clear HX2
        obtain ⟨k, q2, c2, rfl, rfl, hk, hkc, hr2, hr, hg, hbk⟩ := hrel
        by_cases hlt : k < 20
        · obtain ⟨m, hm⟩ : ∃ m, i + k = m := ⟨_, rfl⟩
          have HMM := Lib.hid hm
          have hd : decide ((k : Int) < 20) = true := decide_eq_true (by omega)
          have hti : (k : Int) < 20 := by omega
          obtain ⟨v1, hv1⟩ : ∃ v, v = wr.alloc (.cells #[.int .u8 x] 5) := ⟨_, rfl⟩
          have HV1 := Lib.hid hv1.symm
          have hkp : ∀ k, k < wr.heap.size → v1.heap[k]? = wr.heap[k]? := fun k hk => by rw [hv1]; exact heap_alloc_old wr _ hk
          have hg1 : wr.grownBy v1 none := ⟨by rw [hv1]; rfl, by rw [hv1]; rfl, by rw [hv1]; rfl, by rw [hv1]; simp, fun k hk _ => hkp k hk⟩
          obtain ⟨q3, c3, v3, hrun, hr3, hm3, -, hk3, hg3, hb3⟩ := rm_append v1 q2 m c2 (rm_kept hr2.out hkp) (by omega) ⟨wr.heap.size, 0, none⟩ (.int .u8 x) (by rw [hv1, cell_of_heap (heap_last _ _)]; rfl) rfl (by have := HB.out; omega)
          rw [hv1] at hrun
          have HRun := Lib.hid hrun
          have HR3 := Lib.hid hr3
          have HM3 := Lib.hid hm3
          have HRq : Hid (Rm v3 q c) := Lib.hid (hk3 q c (rm_kept hr.out hkp))
          have hs1 : wr.heap.size ≤ v1.heap.size := hg1.size
          have hwz : w.heap.size ≤ wr.heap.size := hg.out.size
          have HG3 : Hid (w.grownBy v3 (blkOf q)) := Lib.hid (gby_then (gby_then hg.out hg1 (fun j hj => by cases hj)) hg3 (fun j hj => by
            rcases hbk.out with h | ⟨k, h, h2⟩
            · exact .inr (h.symm.trans hj)
            · rw [h] at hj; cases hj; exact .inl h2))
          have HBk : Hid (blkOf q3 = blkOf q ∨ ∃ k, blkOf q3 = some k ∧ w.heap.size ≤ k) := Lib.hid (by
            rcases hb3 with h | ⟨k, h, h2⟩
            · rw [h]; exact hbk.out
            · exact .inr ⟨k, h, by omega⟩)
          rw [hm]
          clear hr2 hr hg hbk hv1 hkp hg1 hrun hr3 hm3 hk3 hg3 hb3 hs1 hwz hm
          go_wp2_with (first
            | (refine wpList_append_at rfl _ _ _ _ rfl _ _ rfl rfl _ _ (HRun.out _) ?_))
          go_roundw
          case rel => exact ⟨k + 1, q3, c3, by rw [show i + (k + 1) = m + 1 by have := HMM.out; omega], by go_num, hlt, by have := HM3.out; have := HMM.out; omega, HR3, HRq, HG3, HBk⟩
          case measure => simp [RowKit.intOf]; omega
        · obtain rfl : k = 20 := by omega
          have hd : decide (((20 : Nat) : Int) < 20) = false := by decide
          obtain ⟨q3, c3, v3, hrun, hr3, hm3, hq3, -, hg3, hb3⟩ := rm_zeros wr q i c hr.out HN.out (by have := HB.out; omega)
          have HRun := Lib.hid hrun
          obtain ⟨g, cur, rfl, hgc, hs⟩ : ∃ g cur, q3 = some ⟨g, 0, none⟩ ∧ v3.heap[g]? = some (.cells cur 5 (0, 0)) ∧ cur.size = c3 := by
            rcases hr3 with ⟨rfl, _⟩ | h
            · exact absurd rfl hq3
            · exact h
          obtain ⟨m, hm⟩ : ∃ m, i + 70 = m := ⟨_, rfl⟩
          rw [hm] at HRun hm3
          have hpos : 0 < m := by omega
          have hdp : decide ((0 : Int) < (m : Int)) = true := decide_eq_true (by omega)
          have htp : (0 : Int) < (m : Int) := by omega
          obtain ⟨y, c1⟩ : ∃ y, v3.cell? ⟨g, 0, none⟩ = some y := ⟨cur[0]'(by omega), by
            rw [cell_of_heap hgc]
            exact Array.getElem?_eq_getElem _⟩
          have f1 : v3.frozen? ⟨g, 0, none⟩ = false := frozen_of_heap hgc _
          have HG : Hid (w.grownBy (v3.setCell ⟨g, 0, none⟩ (.int .u8 x)) (blkOf q)) := Lib.hid (by
            refine gby_then (gby_then hg.out hg3 (fun j hj => .inr hj)) ⟨rfl, rfl, rfl, by simp, fun k _ hne => heap_setCell_other v3 ⟨g, 0, none⟩ k _ (fun e => hne (by rw [e]))⟩ (fun j hj => ?_)
            cases hj
            rcases hb3 with h | ⟨k, h, h2⟩
            · exact .inr h.symm
            · cases h
              exact .inl (Nat.le_trans hg.out.size h2))
          clear hr2 hr hg hbk hrun hr3 hm3 hg3 hb3 hgc hs hm hk hkc hlt
          rw [show ((20 : Nat) : Int) = 20 from rfl]
          go_wp2_with (first
            | (refine wpList_append_at rfl _ _ _ _ rfl _ _ rfl rfl _ _ (HRun.out _) ?_))
          go_returns
          exact ⟨rfl, HG.out⟩
end Go.Proofs.YtjjahcidncnogaaDoor
