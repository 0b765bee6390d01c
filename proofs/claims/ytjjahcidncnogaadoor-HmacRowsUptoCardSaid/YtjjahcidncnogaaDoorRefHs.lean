/- The reference's hash as a value; its New, Len and Copy: contracts. -/
import Derived.Test.YtjjahcidncnogaaDoorRefWr0
namespace Go.Proofs.YtjjahcidncnogaaDoor
open Go.ChangeShapes Go.WideShapes Go.ChangeAt Go.RowKit Go.Lib

/-- The cells of a hash of the reference's: its words, how many blocks, what is left. -/
def refC (st : List Int) (bl : Int) (v : Value) : Array Value := (st.map (Value.int .u32) ++ [.int .u64 bl, v]).toArray
theorem refC_size (st : List Int) (h : st.length = 8) (bl : Int) (v : Value) : (refC st bl v).size = 10 := by simp [refC, h]
theorem refC_one (st : List Int) (bl : Int) (p : Option Addr) (n c : Nat) : (refC st bl (.slice p n c)).all (·.oneCell') = true := by
  apply all_oneCell_toArray
  intro v hv
  simp only [List.mem_append, List.mem_map, List.mem_cons, List.not_mem_nil, or_false] at hv
  rcases hv with ⟨x, _, rfl⟩ | rfl | rfl <;> rfl
theorem sizeRef : (Tryd.prog.info? 30).map (·.size) = some 10 := by kernel_rfl
theorem refC_bl (st : List Int) (h : st.length = 8) (bl : Int) (v : Value) : (refC st bl v)[8]? = some (.int .u64 bl) := by
  simp [refC, h]
theorem refC_rest (st : List Int) (h : st.length = 8) (bl : Int) (v : Value) : (refC st bl v)[9]? = some v := by
  simp [refC, h]
theorem refC_set (st : List Int) (h : st.length = 8) (bl : Int) (v v' : Value) : (refC st bl v).setIfInBounds 9 v' = refC st bl v' := by
  simp [refC, h]

set_option maxRecDepth 100000 in
set_option maxHeartbeats 1000000 in
theorem refNew_any (w : World) : Calls Tryd.prog 17 #[] w fun e w' => e = .returned (.agg (refC firstI 0 (.slice none 0 0))) ∧ Below w.heap.size w w' := by
  have HF := Lib.hid (fun w => refFirst_any w)
  have HS10 : Hid ((Tryd.prog.info? 30).map (·.size) = some (refC firstI 0 (.slice none 0 0)).size) := Lib.hid (by rw [refC_size firstI rfl]; exact sizeRef)
  have H1 := Lib.hid (refC_one firstI 0 none 0 0)
  have HO : Hid ((refC zeros8 0 (.slice none 0 0)).size = (refC firstI 0 (.slice none 0 0)).size) := Lib.hid rfl
  have HA : Hid ((w.alloc (.cells (refC zeros8 0 (.slice none 0 0)) 30)).heap[w.heap.size]? = some (.cells (refC zeros8 0 (.slice none 0 0)) 30 (0, 0))) := Lib.hid (MapKept.heap_alloc w _).1
  have HG : Hid (Below w.heap.size w (w.alloc (.cells (refC zeros8 0 (.slice none 0 0)) 30))) := Lib.hid ((Below.refl _ w).alloc (Nat.le_refl _) _)
  obtain ⟨v0, hv0⟩ : ∃ v, v = w.alloc (.cells (refC zeros8 0 (.slice none 0 0)) 30) := ⟨_, rfl⟩
  rw [← hv0] at HA HG
  have HV0 := Lib.hid hv0.symm
  clear hv0
  go_enter Tryd.func17, Tryd.ntmps17
  go_wp2_with fail
  refine calls_at HV0.out ?_
  refine (HF.out _).mono ?_
  rintro e w1 ⟨rfl, hb⟩
  have HB1 := Lib.hid hb
  have HA1 : Hid (w1.heap[w.heap.size]? = some (.cells (refC zeros8 0 (.slice none 0 0)) 30 (0, 0))) := Lib.hid ((hb.block _ (by have := HG.out.size; have h := (Array.getElem?_eq_some_iff.1 HA.out).1; exact h)).trans HA.out)
  have HG1 : Hid (Below w.heap.size w w1) := Lib.hid (HG.out.trans (hb.mono HG.out.size))
  clear hb
  go_wp2_with (refine wpList_store_row rfl 30 (.tmp 0) (.tmp 2) rfl w.heap.size (refC firstI 0 (.slice none 0 0)) rfl rfl 30 _ HA1.out HS10.out HO.out H1.out ?_)
  exact bodyPost_ret (results_cell_row rfl _ _ w.heap.size 30 (refC firstI 0 (.slice none 0 0)) (0, 0) _ rfl (setRow_heap w1 _ _ _ _ _ HA1.out) Tryd.underlying30 rfl HS10.out) rfl ⟨rfl, HG1.out.trans (⟨rfl, rfl, rfl, by simp, fun j hj => setRow_other w1 _ j _ (by omega)⟩ : Below w.heap.size w1 (w1.setRow w.heap.size (refC firstI 0 (.slice none 0 0))))⟩

set_option maxRecDepth 100000 in
set_option maxHeartbeats 1000000 in
theorem refLen_any (st : List Int) (hs : st.length = 8) (bl : Int) (p : Option Addr) (n c : Nat) (w : World) :
    Calls Tryd.prog 75 #[.agg (refC st bl (.slice p n c))] w fun e w' => e = .returned (.int .u64 ((bl * 64 + (n : Int)) % 18446744073709551616)) ∧ Below w.heap.size w w' := by
  have c8 : (w.alloc (.cells (refC st bl (.slice p n c)) 30)).cell? ⟨w.heap.size, 8, none⟩ = some (.int .u64 bl) := by
    rw [Go.Joins.cell_of_block (MapKept.heap_alloc w _).1]; exact refC_bl st hs bl _
  have c9 : (w.alloc (.cells (refC st bl (.slice p n c)) 30)).cell? ⟨w.heap.size, 9, none⟩ = some (.slice p n c) := by
    rw [Go.Joins.cell_of_block (MapKept.heap_alloc w _).1]; exact refC_rest st hs bl _
  obtain ⟨C, hC⟩ : ∃ C, refC st bl (.slice p n c) = C := ⟨_, rfl⟩
  rw [hC] at c8 c9 ⊢
  clear hC
  go_enter Tryd.func75, Tryd.ntmps75
  go_wp2_with fail
  go_ret
  refine ⟨?_, (Below.refl _ w).alloc (Nat.le_refl _) _⟩
  refine congrArg (fun x => Ending.returned (.int .u64 x)) ?_
  show IntKind.u64.wrap (_ + _) = _
  simp only [wrap64]
  omega
end Go.Proofs.YtjjahcidncnogaaDoor
