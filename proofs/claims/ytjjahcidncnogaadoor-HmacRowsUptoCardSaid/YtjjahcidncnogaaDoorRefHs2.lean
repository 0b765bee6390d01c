/- The reference's Copy: its contract. -/
import Derived.Test.YtjjahcidncnogaaDoorRefHs
namespace Go.Proofs.YtjjahcidncnogaaDoor
open Go.ChangeShapes Go.WideShapes Go.ChangeAt Go.RowKit Go.Lib

theorem owns_setRow {w : World} {B n : Nat} {v : Value} {xs : List Value} (h : w.ownsRow B 5 1 v n xs) {g : Nat} (hg : g < B) (cs : Array Value) : (w.setRow g cs).ownsRow B 5 1 v n xs := by
  refine ⟨h.1, ?_⟩
  rcases h.2 with hn | ⟨k, cap, cur, hv, hB, hk, rest⟩
  · exact .inl hn
  · exact .inr ⟨k, cap, cur, hv, hB, (setRow_other w _ k _ (by omega)).trans hk, rest⟩

set_option maxRecDepth 100000 in
set_option maxHeartbeats 2000000 in
theorem refCopy_any (st : List Int) (hs : st.length = 8) (bl : Int) (q : Option Addr) (c : Nat) (l : List UInt8) (w : World) (hn : q = none → l = [] ∧ c = 0) (hB : Bytes w.heap.size w.heap.size q l w) (hm : l.length ≤ 140737488351232) :
    Calls Tryd.prog 15 #[.agg (refC st bl (.slice q l.length c))] w fun e w' => ∃ q' c', e = .returned (.agg (refC st bl (.slice q' l.length c'))) ∧ w'.ownsRow w.heap.size 5 1 (.slice q' l.length c') l.length (Go.Lib.byteCells l) ∧ Below w.heap.size w w' := by
  obtain ⟨C, hC⟩ : ∃ C, refC st bl (.slice q l.length c) = C := ⟨_, rfl⟩
  obtain ⟨v0, hv0⟩ : ∃ v, v = (w.alloc (.cells C 30)).alloc (.cells (refC zeros8 0 (.slice none 0 0)) 30) := ⟨_, rfl⟩
  have HS10 : ∀ v, Hid ((Tryd.prog.info? 30).map (·.size) = some (refC st bl v).size) := fun v => Lib.hid (by rw [refC_size st hs]; exact sizeRef)
  have H1 : ∀ p n c, Hid ((refC st bl (.slice p n c)).all (·.oneCell') = true) := fun p n c => Lib.hid (refC_one st bl p n c)
  have HO : ∀ v, Hid ((refC zeros8 0 (.slice none 0 0)).size = (refC st bl v).size) := fun v => Lib.hid (by rw [refC_size st hs]; rfl)
  have HSet : ∀ v, Hid (C.setIfInBounds 9 v = refC st bl v) := fun v => Lib.hid (by rw [← hC]; exact refC_set st hs bl _ _)
  have hsz : v0.heap.size = w.heap.size + 1 + 1 := by rw [hv0]; simp
  have hA0 : v0.heap[w.heap.size]? = some (.cells C 30 (0, 0)) := by
    rw [hv0, (MapKept.heap_alloc _ _).2 _ (by simp)]; exact (MapKept.heap_alloc w _).1
  have hA1 : v0.heap[w.heap.size + 1]? = some (.cells (refC zeros8 0 (.slice none 0 0)) 30 (0, 0)) := by
    have h := (MapKept.heap_alloc (w.alloc (.cells C 30)) (.cells (refC zeros8 0 (.slice none 0 0)) 30)).1
    rw [← hv0] at h
    rw [show w.heap.size + 1 = (w.alloc (.cells C 30)).heap.size by simp]
    exact h
  have hG0 : Below w.heap.size w v0 := by
    rw [hv0]
    exact ((Below.refl _ w).alloc (Nat.le_refl _) _).alloc (by simp) _
  -- behind the making of the empty row
  obtain ⟨v1, hv1⟩ : ∃ v, v = v0.alloc (.cells #[] 5) := ⟨_, rfl⟩
  have hG1 : Below v0.heap.size v0 v1 := by rw [hv1]; exact (Below.refl _ v0).alloc (Nat.le_refl _) _
  have hO1 : v1.ownsRow (w.heap.size + 1 + 1) 5 1 (.slice (some ⟨v0.heap.size, 0, none⟩) 0 0) 0 (Go.Lib.byteCells []) := by
    rw [hv1]
    exact ⟨rfl, .inr ⟨v0.heap.size, 0, #[], rfl, by omega, (MapKept.heap_alloc v0 _).1, Nat.le_refl _, by decide, rfl, rfl⟩⟩
  have hG01 : Below w.heap.size w v1 := hG0.trans (hG1.mono hG0.size)
  have hBy : Bytes v1.heap.size v1.heap.size q l v1 := (hB.keep hG01).at hG01.size hG01.size
  have hB0 : v1.heap[w.heap.size]? = some (.cells C 30 (0, 0)) := (hG1.block _ (by omega)).trans hA0
  have hB1 : v1.heap[w.heap.size + 1]? = some (.cells (refC zeros8 0 (.slice none 0 0)) 30 (0, 0)) := (hG1.block _ (by omega)).trans hA1
  have c9v : v1.cell? ⟨w.heap.size, 9, none⟩ = some (.slice q l.length c) := by rw [Go.Joins.cell_of_block hB0, ← hC]; exact refC_rest st hs bl _
  obtain ⟨n, hnn⟩ : ∃ n, l.length = n := ⟨_, rfl⟩
  rw [hnn] at c9v hm ⊢
  have HN : Hid (q = none → n = 0 ∧ c = 0) := Lib.hid (fun h => by obtain ⟨rfl, h2⟩ := hn h; exact ⟨hnn.symm, h2⟩)
  have HM := Lib.hid hm
  have HL := Lib.hid hnn
  have HB0 := Lib.hid hB0
  have HB1 := Lib.hid hB1
  have HBy := Lib.hid hBy
  have HSz := Lib.hid hsz
  have HG01 := Lib.hid hG01
  have HG0 := Lib.hid hG0
  have HG1 := Lib.hid hG1
  rw [hnn] at hC
  rw [hC]
  have hC9 : C[9]? = some (.slice q n c) := by rw [← hC]; exact refC_rest st hs bl _
  have HVV : Hid ((((w.alloc (.cells C 30)).alloc (.cells (refC zeros8 0 (.slice none 0 0)) 30)).alloc (.cells #[] 5)) = v1) := Lib.hid (by rw [hv1, hv0])
  have HAd : Hid ((some ⟨v0.heap.size, 0, none⟩ : Option Addr) = some ⟨w.heap.size + 1 + 1, 0, none⟩) := Lib.hid (by rw [hsz])
  rw [HAd.out] at hO1
  have HO1 : Hid (v1.ownsRow (w.heap.size + 1 + 1) 5 1 (.slice (some ⟨w.heap.size + 1 + 1, 0, none⟩) 0 0) 0 (Go.Lib.byteCells [])) := Lib.hid hO1
  have HG2s : Hid (w.heap.size + 1 + 1 ≤ v1.heap.size) := Lib.hid (by rw [hv1]; simp; omega)
  have HG1s : Hid (w.heap.size + 1 + 1 + 1 ≤ v1.heap.size) := Lib.hid (by rw [hv1]; simp; omega)
  clear hA0 hA1 hsz hv0 hv1 hB0 hB1 hO1 hBy hn hB hm hnn hG01 hG1 hG0 hC hs
  go_enter Tryd.func15, Tryd.ntmps15
  go_wp2_with (first
    | (refine wpList_append_piece rfl (.tmp 3) (.tmp 5) rfl (w.heap.size + 1 + 1) _ 0 [] rfl HO1.out q n c n l rfl HL.out HN.out _ _ HBy.out (by omega) (by have := HM.out; omega) HG2s.out ?_)
    | (refine wpList_world HVV.out ?_))
  intro q4 k4 w4 ho4 hg4
  have HO4 := Lib.hid ho4
  have hg5 : Below (w.heap.size + 1 + 1) v1 w4 := (Below.refl _ v1).grown hg4 (by have := HG1s.out; omega) (fun k hk => by simp [Value.ownBlock] at hk; omega)
  have HG4 : Hid (Below w.heap.size w w4) := Lib.hid (HG01.out.trans (hg5.mono (by omega)))
  have HC4 : Hid (w4.heap[w.heap.size]? = some (.cells C 30 (0, 0))) := Lib.hid ((hg5.block _ (by omega)).trans HB0.out)
  have HZ4 : Hid (w4.heap[w.heap.size + 1]? = some (.cells (refC zeros8 0 (.slice none 0 0)) 30 (0, 0))) := Lib.hid ((hg5.block _ (by omega)).trans HB1.out)
  have c9 : w4.cell? ⟨w.heap.size, 9, none⟩ = some (.slice q n c) := by rw [Go.Joins.cell_of_block HC4.out]; exact hC9
  have f9 : w4.frozen? ⟨w.heap.size, 9, none⟩ = false := frozen_of_heap HC4.out 9
  clear hg5 hg4 ho4 hC9 c9v
  have HC5 : Hid ((w4.setCell ⟨w.heap.size, 9, none⟩ (.slice q4 n k4)).heap[w.heap.size]? = some (.cells (refC st bl (.slice q4 n k4)) 30 (0, 0))) := Lib.hid (by
    rw [Go.Joins.block_setCell HC4.out _, (HSet _).out])
  have HZ5 : Hid ((w4.setCell ⟨w.heap.size, 9, none⟩ (.slice q4 n k4)).heap[w.heap.size + 1]? = some (.cells (refC zeros8 0 (.slice none 0 0)) 30 (0, 0))) := Lib.hid (by
    rw [Below.heap_setCell _ _ _ _ (by simp only; omega)]; exact HZ4.out)
  have HG5 : Hid (Below w.heap.size w (w4.setCell ⟨w.heap.size, 9, none⟩ (.slice q4 n k4))) := Lib.hid (HG4.out.setCell (by simp only; omega) _)
  have HO5 : Hid ((w4.setCell ⟨w.heap.size, 9, none⟩ (.slice q4 n k4)).ownsRow (w.heap.size + 1 + 1) 5 1 (.slice q4 n k4) n (Go.Lib.byteCells l)) := Lib.hid (by
    have h := HO4.out
    exact ownsRow_setCell_below h (by simp only; omega) _)
  obtain ⟨w5, hw5⟩ : ∃ v, v = w4.setCell ⟨w.heap.size, 9, none⟩ (.slice q4 n k4) := ⟨_, rfl⟩
  rw [← hw5] at HC5 HZ5 HG5 HO5
  have HW5 := Lib.hid hw5.symm
  clear hw5
  have HS5 := HS10 (.slice q4 n k4)
  have H15 := H1 q4 n k4
  have HO10 := HO (.slice q4 n k4)
  obtain ⟨D, hD⟩ : ∃ D, refC st bl (.slice q4 n k4) = D := ⟨_, rfl⟩
  rw [hD] at HC5 HS5 H15 HO10
  have HD := Lib.hid hD
  clear hD
  go_wp2_with (first
    | (refine wpList_load_row rfl 30 (.tmp 1) rfl w.heap.size rfl 30 _ (0, 0) _ HC5.out Tryd.underlying30 rfl HS5.out ?_)
    | (refine wpList_store_row rfl 30 (.tmp 2) (.tmp 8) rfl (w.heap.size + 1) D rfl rfl 30 _ HZ5.out HS5.out HO10.out H15.out ?_)
    | (refine wpList_world HW5.out ?_))
  exact bodyPost_ret (results_cell_row rfl _ _ (w.heap.size + 1) 30 D (0, 0) _ rfl (setRow_heap w5 _ _ _ _ _ HZ5.out) Tryd.underlying30 rfl HS5.out) rfl
    ⟨q4, k4, by rw [HD.out], Go.Joins.ownsRow_le (owns_setRow HO5.out (by omega) _) (by omega), HG5.out.trans (⟨rfl, rfl, rfl, by simp, fun j hj => setRow_other w5 _ j _ (by omega)⟩ : Below w.heap.size w5 (w5.setRow (w.heap.size + 1) D))⟩
end Go.Proofs.YtjjahcidncnogaaDoor
