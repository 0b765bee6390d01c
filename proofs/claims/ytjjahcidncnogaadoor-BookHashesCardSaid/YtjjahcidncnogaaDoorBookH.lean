/- Layer 27's hashes, the reference's and the program's: contracts. -/
import Derived.Test.YtjjahcidncnogaaDoorRefSum
import Derived.Test.YtjjahcidncnogaaDoorHeld2
import Derived.Test.YtjjahcidncnogaaDoorMacNew
import Derived.Test.YtjjahcidncnogaaDoorShaTakenL
namespace Go.Proofs.YtjjahcidncnogaaDoor
open Go.ChangeShapes Go.WideShapes Go.ChangeAt Go.RowKit Go.Lib

theorem mark_bytes {w : World} {g b K : Nat} {L : List UInt8} {t : TypeId} {fr : Nat × Nat} (h : w.heap[g]? = some (.cells (Go.Lib.byteCells L).toArray t fr)) (hb : g < b) (hK : g ≠ K) : Bytes b K (some ⟨g, 0, none⟩) L w := fun _ =>
  ⟨g, 0, rfl, hb, hK, fun j hj => by
    rw [cell_of_heap h, Nat.zero_add]
    simp [Go.Lib.byteCells, List.getElem?_eq_getElem hj]⟩
theorem lit1_owns (w : World) (x : UInt8) : (w.alloc (.cells (Go.Lib.byteCells [x]).toArray 5)).ownsRow w.heap.size 5 1 (.slice (some ⟨w.heap.size, 0, none⟩) 1 1) 1 (Go.Lib.byteCells [x]) :=
  ⟨rfl, .inr ⟨w.heap.size, 1, _, rfl, Nat.le_refl _, (MapKept.heap_alloc w _).1, Nat.le_refl _, by decide, rfl, rfl⟩⟩
/-- Three parts, in a block of their own. -/
def triF {α : Type} (x y z : α) (i : Nat) : α := if i = 0 then x else if i = 1 then y else z
theorem cat_three (l m k : List UInt8) : cat (triF l m k) 3 = l ++ m ++ k := rfl
theorem cat_three1 (m k : List UInt8) : cat (triF [1] m k) 3 = 1 :: (m ++ k) := rfl
theorem parts_three {w : World} {g b : Nat} {p q r : Option Addr} {l m k : List UInt8} {c d e : Nat} (h0 : w.cell? ⟨g, 0, none⟩ = some (.slice p l.length c)) (h1 : w.cell? ⟨g, 1, none⟩ = some (.slice q m.length d)) (h2 : w.cell? ⟨g, 2, none⟩ = some (.slice r k.length e)) (hg : g < b)
    (hB : Bytes b b p l w) (hC : Bytes b b q m w) (hD : Bytes b b r k w) (hl : l.length ≤ c) (hm : m.length ≤ d) (hk : k.length ≤ e) (hl2 : l.length ≤ 140737488351232) (hm2 : m.length ≤ 140737488351232) (hk2 : k.length ≤ 140737488351232) :
    Parts b (some ⟨g, 0, none⟩) 3 (triF p q r) (triF c d e) (triF l m k) w :=
  ⟨fun _ => ⟨g, 0, rfl, hg, fun i hi => by
      obtain rfl | rfl | rfl : i = 0 ∨ i = 1 ∨ i = 2 := by omega
      · exact h0
      · exact h1
      · exact h2⟩, fun i hi => by
      obtain rfl | rfl | rfl : i = 0 ∨ i = 1 ∨ i = 2 := by omega
      · exact ⟨hB, hl, hl2⟩
      · exact ⟨hC, hm, hm2⟩
      · exact ⟨hD, hk, hk2⟩⟩
theorem d32_size (D : List UInt8) (hD : D.length = 32) : (Tryd.prog.info? 47).map (·.size) = some (Go.Lib.byteCells D).toArray.size :=
  (by kernel_rfl : (Tryd.prog.info? 47).map (·.size) = some 32).trans (by rw [List.size_toArray, bc_len, hD])
theorem zero_size (D : List UInt8) (hD : D.length = 32) : (Go.Lib.byteCells zero32).toArray.size = (Go.Lib.byteCells D).toArray.size := by
  rw [List.size_toArray, List.size_toArray, bc_len, bc_len, hD]; rfl

set_option maxRecDepth 100000 in
set_option maxHeartbeats 4000000 in
theorem leafRow_any (p : Option Addr) (c : Nat) (l : List UInt8) (w : World) (hn : p = none → l = [] ∧ c = 0) (hB : Bytes w.heap.size w.heap.size p l w) (hm : l.length ≤ 140737488351232) :
    Calls Tryd.prog 89 #[.slice p l.length c] w fun e w' => ∃ q k, e = .returned (.slice q (l.length + 1) k) ∧ w'.ownsRow w.heap.size 5 1 (.slice q (l.length + 1) k) (l.length + 1) (Go.Lib.byteCells (0 :: l)) ∧ Below w.heap.size w w' := by
  obtain ⟨n, hnn⟩ : ∃ n, l.length = n := ⟨_, rfl⟩
  rw [hnn] at hm ⊢
  have HL := Lib.hid hnn
  have HM := Lib.hid hm
  have HN : Hid (p = none → n = 0 ∧ c = 0) := Lib.hid (fun e => by have h := hn e; rw [← hnn, h.1]; exact ⟨rfl, h.2⟩)
  obtain ⟨v1, hv1⟩ : ∃ v, v = w.alloc (.cells (Go.Lib.byteCells [0]).toArray 5) := ⟨_, rfl⟩
  have HV1 := Lib.hid hv1.symm
  have HO1 := Lib.hid (lit1_owns w 0)
  rw [← hv1] at HO1
  have HG1 : Hid (Below w.heap.size w v1) := Lib.hid (by rw [hv1]; exact (Below.refl _ w).alloc (Nat.le_refl _) _)
  have HB1 : Hid (Bytes v1.heap.size v1.heap.size p l v1) := Lib.hid ((hB.keep HG1.out).at HG1.out.size HG1.out.size)
  clear hn hB hm hnn hv1
  go_enter Tryd.func89, Tryd.ntmps89
  go_wp2_with (first
    | (refine wpList_append_piece rfl (.tmp 3) (.tmp 4) rfl w.heap.size _ 1 [0] rfl HO1.out p n c (n + 1) l rfl HL.out HN.out _ _ HB1.out (by omega) (by have := HM.out; omega) HG1.out.size ?_)
    | (refine wpList_world HV1.out ?_))
  intro q k w2 ho hg
  have HO := Lib.hid ho
  have HG : Hid (Below w.heap.size w w2) := Lib.hid (HG1.out.grown hg HG1.out.size (fun k hk => (HO1.out.lt k hk).1))
  clear ho hg
  go_wp2_with fail
  go_ret
  exact ⟨q, k, rfl, HO.out, HG.out⟩

set_option maxRecDepth 100000 in
set_option maxHeartbeats 4000000 in
theorem refLeaf_any (p : Option Addr) (c : Nat) (l : List UInt8) (w : World) (hn : p = none → l = [] ∧ c = 0) (hB : Bytes w.heap.size w.heap.size p l w) (hm : l.length < 140737488351232) :
    Calls Tryd.prog 59 #[.slice p l.length c] w fun e w' => e = .returned (dig (shaL (0 :: l))) ∧ Below w.heap.size w w' := by
  obtain ⟨D, hD⟩ : ∃ D, shaL (0 :: l) = D := ⟨_, rfl⟩
  have HDl : Hid (D.length = 32) := Lib.hid (by rw [← hD]; exact sumI_length _ _ _)
  have HD := Lib.hid hD
  rw [hD]
  obtain ⟨v1, hv1⟩ : ∃ v, v = w.alloc (.cells (Go.Lib.byteCells zero32).toArray 47) := ⟨_, rfl⟩
  have HV1 := Lib.hid hv1.symm
  have HG1 : Hid (Below w.heap.size w v1) := Lib.hid (by rw [hv1]; exact (Below.refl _ w).alloc (Nat.le_refl _) _)
  have HR1 : Hid (v1.heap[w.heap.size]? = some (.cells (Go.Lib.byteCells zero32).toArray 47 (0, 0))) := Lib.hid (by rw [hv1]; exact heap_last _ _)
  have HRow := Lib.hid (leafRow_any p c l v1 hn ((hB.keep HG1.out).at HG1.out.size HG1.out.size) (by omega))
  have HL1 : Hid ((0 :: l).length ≤ 140737488351232) := Lib.hid (by rw [List.length_cons]; omega)
  have HLe : Hid ((0 :: l).length = l.length + 1) := Lib.hid (List.length_cons)
  unfold dig
  clear hn hB hm hD hv1
  go_enter Tryd.func59, Tryd.ntmps59
  go_wp2_with fail
  refine calls_at HV1.out ?_
  refine HRow.out.mono ?_
  rintro e w2 ⟨q, k, rfl, ho, hb⟩
  have HG2 : Hid (Below w.heap.size w w2) := Lib.hid (HG1.out.trans (hb.mono HG1.out.size))
  have HR2 : Hid (w2.heap[w.heap.size]? = some (.cells (Go.Lib.byteCells zero32).toArray 47 (0, 0))) := Lib.hid ((hb.block _ (Array.getElem?_eq_some_iff.1 HR1.out).1).trans HR1.out)
  have HOf : Hid (Calls Tryd.prog 24 #[.slice q (l.length + 1) k] w2 fun e w' => e = .returned (dig D) ∧ Below w2.heap.size w2 w') := Lib.hid (by
    obtain ⟨q9, c9, he, -, hb9⟩ := owns_bytes ho HLe.out
    simp only [Value.slice.injEq, true_and] at he
    obtain ⟨rfl, rfl⟩ := he
    have h := refOf_any q k (0 :: l) w2 hb9 HL1.out
    rw [HLe.out, HD.out] at h
    exact h)
  unfold dig at HOf
  clear ho hb
  go_wp2_with fail
  refine HOf.out.mono ?_
  rintro e w3 ⟨rfl, hb3⟩
  have HG3 : Hid (Below w.heap.size w w3) := Lib.hid (HG2.out.trans (hb3.mono HG2.out.size))
  have HR3 : Hid (w3.heap[w.heap.size]? = some (.cells (Go.Lib.byteCells zero32).toArray 47 (0, 0))) := Lib.hid ((hb3.block _ (Array.getElem?_eq_some_iff.1 HR2.out).1).trans HR2.out)
  have HI := Lib.hid (d32_size D HDl.out)
  have HZ := Lib.hid (zero_size D HDl.out)
  have H1 := Lib.hid (dig_one D)
  clear hb3
  go_wp2_with (refine wpList_store_row rfl 47 (.tmp 2) (.tmp 5) rfl w.heap.size (Go.Lib.byteCells D).toArray rfl rfl 47 _ HR3.out HI.out HZ.out H1.out ?_)
  exact bodyPost_ret (results_cell_row rfl _ _ w.heap.size 47 (Go.Lib.byteCells D).toArray (0, 0) _ rfl (setRow_heap w3 _ _ _ _ _ HR3.out) Tryd.underlying47 rfl HI.out) rfl ⟨rfl, HG3.out.trans ⟨rfl, rfl, rfl, by simp, fun k hk => setRow_other w3 _ k _ (by omega)⟩⟩

set_option maxRecDepth 100000 in
set_option maxHeartbeats 4000000 in
theorem refEmpty_any (w : World) : Calls Tryd.prog 63 #[] w fun e w' => e = .returned (dig (shaL [])) ∧ Below w.heap.size w w' := by
  have HOf := Lib.hid (refOf_any none 0 [] (w.alloc (.cells (Go.Lib.byteCells zero32).toArray 47)) (fun h => absurd rfl h) (by decide))
  obtain ⟨D, hD⟩ : ∃ D, shaL [] = D := ⟨_, rfl⟩
  have HDl : Hid (D.length = 32) := Lib.hid (by rw [← hD]; exact sumI_length _ _ _)
  rw [hD] at HOf ⊢
  unfold dig at HOf ⊢
  have HG1 : Hid (Below w.heap.size w (w.alloc (.cells (Go.Lib.byteCells zero32).toArray 47))) := Lib.hid ((Below.refl _ w).alloc (Nat.le_refl _) _)
  have HR1 : Hid ((w.alloc (.cells (Go.Lib.byteCells zero32).toArray 47)).heap[w.heap.size]? = some (.cells (Go.Lib.byteCells zero32).toArray 47 (0, 0))) := Lib.hid (heap_last _ _)
  clear hD
  go_enter Tryd.func63, Tryd.ntmps63
  go_wp2_with fail
  refine HOf.out.mono ?_
  rintro e w3 ⟨rfl, hb3⟩
  have HG3 : Hid (Below w.heap.size w w3) := Lib.hid (HG1.out.trans (hb3.mono HG1.out.size))
  have HR3 : Hid (w3.heap[w.heap.size]? = some (.cells (Go.Lib.byteCells zero32).toArray 47 (0, 0))) := Lib.hid ((hb3.block _ (Array.getElem?_eq_some_iff.1 HR1.out).1).trans HR1.out)
  have HI := Lib.hid (d32_size D HDl.out)
  have HZ := Lib.hid (zero_size D HDl.out)
  have H1 := Lib.hid (dig_one D)
  clear hb3
  go_wp2_with (refine wpList_store_row rfl 47 (.tmp 0) (.tmp 1) rfl w.heap.size (Go.Lib.byteCells D).toArray rfl rfl 47 _ HR3.out HI.out HZ.out H1.out ?_)
  exact bodyPost_ret (results_cell_row rfl _ _ w.heap.size 47 (Go.Lib.byteCells D).toArray (0, 0) _ rfl (setRow_heap w3 _ _ _ _ _ HR3.out) Tryd.underlying47 rfl HI.out) rfl ⟨rfl, HG3.out.trans ⟨rfl, rfl, rfl, by simp, fun k hk => setRow_other w3 _ k _ (by omega)⟩⟩

set_option maxRecDepth 100000 in
set_option maxHeartbeats 4000000 in
theorem bookEmpty_any (w : World) (hT : Tab w) : Calls Tryd.prog 62 #[] w fun e w' => e = .returned (dig (shaL [])) ∧ Below w.heap.size w w' := by
  have HG1 : Hid (Below w.heap.size w (w.alloc (.cells (Go.Lib.byteCells zero32).toArray 48))) := Lib.hid ((Below.refl _ w).alloc (Nat.le_refl _) _)
  have HSum : Hid (Calls Tryd.prog 22 #[.slice none 0 0] (w.alloc (.cells (Go.Lib.byteCells zero32).toArray 48)) fun e w' => e = .returned (dig (shaL [])) ∧ Below (w.alloc (.cells (Go.Lib.byteCells zero32).toArray 48)).heap.size (w.alloc (.cells (Go.Lib.byteCells zero32).toArray 48)) w') := Lib.hid (sum_none w hT _ HG1.out)
  obtain ⟨D, hD⟩ : ∃ D, shaL [] = D := ⟨_, rfl⟩
  have HDl : Hid (D.length = 32) := Lib.hid (by rw [← hD]; exact sumI_length _ _ _)
  rw [hD] at HSum ⊢
  unfold dig at HSum ⊢
  have HR1 : Hid ((w.alloc (.cells (Go.Lib.byteCells zero32).toArray 48)).heap[w.heap.size]? = some (.cells (Go.Lib.byteCells zero32).toArray 48 (0, 0))) := Lib.hid (heap_last _ _)
  clear hD hT
  go_enter Tryd.func62, Tryd.ntmps62
  go_wp2_with fail
  refine HSum.out.mono ?_
  rintro e w3 ⟨rfl, hb3⟩
  have HG3 : Hid (Below w.heap.size w w3) := Lib.hid (HG1.out.trans (hb3.mono HG1.out.size))
  have HR3 : Hid (w3.heap[w.heap.size]? = some (.cells (Go.Lib.byteCells zero32).toArray 48 (0, 0))) := Lib.hid ((hb3.block _ (Array.getElem?_eq_some_iff.1 HR1.out).1).trans HR1.out)
  have HI := Lib.hid (dig_size D HDl.out)
  have HZ := Lib.hid (zero_size D HDl.out)
  have H1 := Lib.hid (dig_one D)
  clear hb3
  go_wp2_with (refine wpList_store_row rfl 48 (.tmp 0) (.tmp 1) rfl w.heap.size (Go.Lib.byteCells D).toArray rfl rfl 48 _ HR3.out HI.out HZ.out H1.out ?_)
  exact bodyPost_ret (results_cell_row rfl _ _ w.heap.size 48 (Go.Lib.byteCells D).toArray (0, 0) _ rfl (setRow_heap w3 _ _ _ _ _ HR3.out) Tryd.underlying48 rfl HI.out) rfl ⟨rfl, HG3.out.trans ⟨rfl, rfl, rfl, by simp, fun k hk => setRow_other w3 _ k _ (by omega)⟩⟩

set_option maxRecDepth 100000 in
set_option maxHeartbeats 4000000 in
theorem pairRow_any (D1 D2 : List UInt8) (n1 : D1.length = 32) (n2 : D2.length = 32) (w : World) :
    Calls Tryd.prog 90 #[dig D1, dig D2] w fun e w' => ∃ q k, e = .returned (.slice q 65 k) ∧ w'.ownsRow w.heap.size 5 1 (.slice q 65 k) 65 (Go.Lib.byteCells (1 :: (D1 ++ D2))) ∧ Below w.heap.size w w' := by
  obtain ⟨v1, hv1⟩ : ∃ v, v = (w.alloc (.cells (Go.Lib.byteCells D1).toArray 47)).alloc (.cells (Go.Lib.byteCells D2).toArray 47) := ⟨_, rfl⟩
  have hsz1 : v1.heap.size = w.heap.size + 1 + 1 := by rw [hv1]; simp
  have hA : v1.heap[w.heap.size]? = some (.cells (Go.Lib.byteCells D1).toArray 47 (0, 0)) := by rw [hv1, (MapKept.heap_alloc _ _).2 _ (by simp)]; exact heap_last _ _
  have hBq : v1.heap[w.heap.size + 1]? = some (.cells (Go.Lib.byteCells D2).toArray 47 (0, 0)) := by
    have h := heap_last (w.alloc (.cells (Go.Lib.byteCells D1).toArray 47)) (.cells (Go.Lib.byteCells D2).toArray 47)
    rw [← hv1] at h
    rw [show w.heap.size + 1 = (w.alloc (.cells (Go.Lib.byteCells D1).toArray 47)).heap.size by simp]
    exact h
  have hG1 : Below w.heap.size w v1 := by rw [hv1]; exact ((Below.refl _ w).alloc (Nat.le_refl _) _).alloc (by simp) _
  obtain ⟨v2, hv2⟩ : ∃ v, v = v1.alloc (.cells (Go.Lib.byteCells [1]).toArray 5) := ⟨_, rfl⟩
  have hO2 := lit1_owns v1 1
  rw [← hv2, hsz1] at hO2
  have HO2 := Lib.hid hO2
  have hb12 : Below v1.heap.size v1 v2 := by rw [hv2]; exact (Below.refl _ _).alloc (Nat.le_refl _) _
  have HG2 : Hid (Below w.heap.size w v2) := Lib.hid (hG1.trans (hb12.mono hG1.size))
  have HA2 : Hid (v2.heap[w.heap.size]? = some (.cells (Go.Lib.byteCells D1).toArray 47 (0, 0))) := Lib.hid ((hb12.block _ (by omega)).trans hA)
  have HB2 : Hid (v2.heap[w.heap.size + 1]? = some (.cells (Go.Lib.byteCells D2).toArray 47 (0, 0))) := Lib.hid ((hb12.block _ (by omega)).trans hBq)
  have HZ2 : Hid (w.heap.size + 1 + 1 ≤ v2.heap.size) := Lib.hid (by have := hb12.size; omega)
  have HD1 : Hid (Bytes v2.heap.size v2.heap.size (some ⟨w.heap.size, 0, none⟩) D1 v2) := Lib.hid (row_bytes HA2.out (by have := HZ2.out; omega) (by have := HZ2.out; omega))
  have HV2 : Hid (((w.alloc (.cells (Go.Lib.byteCells D1).toArray 47)).alloc (.cells (Go.Lib.byteCells D2).toArray 47)).alloc (.cells (Go.Lib.byteCells [1]).toArray 5) = v2) := Lib.hid (by rw [hv2, hv1])
  obtain ⟨m3, hm3⟩ : ∃ m, 33 = m := ⟨_, rfl⟩
  obtain ⟨m5, hm5⟩ : ∃ m, 65 = m := ⟨_, rfl⟩
  have HM3 := Lib.hid hm3
  have HM5 := Lib.hid hm5
  rw [hm5]
  have HN1 := Lib.hid n1
  have HN2 := Lib.hid n2
  unfold dig
  clear hv1 hv2 hsz1 hA hBq hG1 hO2 hb12 n1 n2 hm3 hm5
  go_enter Tryd.func90, Tryd.ntmps90
  go_wp2_with (first
    | (refine wpList_append_piece rfl (.tmp 6) (.tmp 7) rfl (w.heap.size + 1 + 1) _ 1 [1] rfl HO2.out (some ⟨w.heap.size, 0, none⟩) 32 32 m3 D1 rfl HN1.out (fun h => by cases h) _ _ HD1.out HM3.out (by have := HM3.out; omega) HZ2.out ?_)
    | (refine wpList_world HV2.out ?_))
  intro q3 k3 w3 ho3 hg3
  have HO3 := Lib.hid ho3
  have hb3 : Below (w.heap.size + 1 + 1) v2 w3 := (Below.refl _ v2).grown hg3 HZ2.out (fun k hk => (HO2.out.lt k hk).1)
  have HB3 : Hid (w3.heap[w.heap.size + 1]? = some (.cells (Go.Lib.byteCells D2).toArray 47 (0, 0))) := Lib.hid ((hb3.block _ (by omega)).trans HB2.out)
  have HG3 : Hid (Below w.heap.size w w3) := Lib.hid (HG2.out.trans (hb3.mono (by omega)))
  have HZ3 : Hid (w.heap.size + 1 + 1 ≤ w3.heap.size) := Lib.hid (Nat.le_trans HZ2.out hb3.size)
  have HD2 : Hid (Bytes w3.heap.size w3.heap.size (some ⟨w.heap.size + 1, 0, none⟩) D2 w3) := Lib.hid (row_bytes HB3.out (by have := HZ3.out; omega) (by have := HZ3.out; omega))
  clear ho3 hg3 hb3
  go_wp2_with (refine wpList_append_piece rfl (.tmp 9) (.tmp 10) rfl (w.heap.size + 1 + 1) _ m3 (1 :: D1) rfl HO3.out (some ⟨w.heap.size + 1, 0, none⟩) 32 32 m5 D2 rfl HN2.out (fun h => by cases h) _ _ HD2.out (by have := HM3.out; have := HM5.out; omega) (by have := HM5.out; omega) HZ3.out ?_)
  intro q4 k4 w4 ho4 hg4
  have HO4 := Lib.hid ho4
  have HG4 : Hid (Below w.heap.size w w4) := Lib.hid (HG3.out.grown hg4 HG3.out.size (fun k hk => by have := (HO3.out.lt k hk).1; omega))
  clear ho4 hg4
  go_wp2_with fail
  go_ret
  exact ⟨q4, k4, rfl, Go.Joins.ownsRow_le HO4.out (by omega), HG4.out⟩

set_option maxRecDepth 100000 in
set_option maxHeartbeats 4000000 in
theorem refPair_any (D1 D2 : List UInt8) (n1 : D1.length = 32) (n2 : D2.length = 32) (w : World) :
    Calls Tryd.prog 61 #[dig D1, dig D2] w fun e w' => e = .returned (dig (shaL (1 :: (D1 ++ D2)))) ∧ Below w.heap.size w w' := by
  obtain ⟨D, hD⟩ : ∃ D, shaL (1 :: (D1 ++ D2)) = D := ⟨_, rfl⟩
  have HDl : Hid (D.length = 32) := Lib.hid (by rw [← hD]; exact sumI_length _ _ _)
  have HD := Lib.hid hD
  rw [hD]
  obtain ⟨v1, hv1⟩ : ∃ v, v = ((w.alloc (.cells (Go.Lib.byteCells D1).toArray 47)).alloc (.cells (Go.Lib.byteCells D2).toArray 47)).alloc (.cells (Go.Lib.byteCells zero32).toArray 47) := ⟨_, rfl⟩
  have HA1 : Hid (v1.heap[w.heap.size]? = some (.cells (Go.Lib.byteCells D1).toArray 47 (0, 0))) := Lib.hid (by
    rw [hv1, (MapKept.heap_alloc _ _).2 _ (by simp; omega), (MapKept.heap_alloc _ _).2 _ (by simp)]; exact heap_last _ _)
  have HB1 : Hid (v1.heap[w.heap.size + 1]? = some (.cells (Go.Lib.byteCells D2).toArray 47 (0, 0))) := Lib.hid (by
    have h := heap_last (w.alloc (.cells (Go.Lib.byteCells D1).toArray 47)) (.cells (Go.Lib.byteCells D2).toArray 47)
    rw [World.size_alloc] at h
    rw [hv1, (MapKept.heap_alloc _ _).2 _ (by simp)]; exact h)
  have HZ1 : Hid (v1.heap[w.heap.size + 1 + 1]? = some (.cells (Go.Lib.byteCells zero32).toArray 47 (0, 0))) := Lib.hid (by
    have h := heap_last ((w.alloc (.cells (Go.Lib.byteCells D1).toArray 47)).alloc (.cells (Go.Lib.byteCells D2).toArray 47)) (.cells (Go.Lib.byteCells zero32).toArray 47)
    rw [World.size_alloc, World.size_alloc] at h
    rw [hv1]; exact h)
  have HG1 : Hid (Below w.heap.size w v1) := Lib.hid (by rw [hv1]; exact (((Below.refl _ w).alloc (Nat.le_refl _) _).alloc (by simp) _).alloc (by simp; omega) _)
  have HV1 := Lib.hid hv1.symm
  have HRow := Lib.hid (pairRow_any D1 D2 n1 n2 v1)
  have HI1 := Lib.hid (d32_size D1 n1)
  have HI2 := Lib.hid (d32_size D2 n2)
  have HLe : Hid ((1 :: (D1 ++ D2)).length = 65) := Lib.hid (by rw [List.length_cons, List.length_append, n1, n2])
  unfold dig at HRow ⊢
  clear hD hv1 n1 n2
  go_enter Tryd.func61, Tryd.ntmps61
  go_wp2_with (first
    | (refine wpList_load_row rfl 47 (.tmp 2) rfl w.heap.size rfl 47 _ (0, 0) _ HA1.out Tryd.underlying47 rfl HI1.out ?_)
    | (refine wpList_load_row rfl 47 (.tmp 3) rfl (w.heap.size + 1) rfl 47 _ (0, 0) _ HB1.out Tryd.underlying47 rfl HI2.out ?_)
    | (refine wpList_world HV1.out ?_))
  refine HRow.out.mono ?_
  rintro e w2 ⟨q, k, rfl, ho, hb⟩
  have HG2 : Hid (Below w.heap.size w w2) := Lib.hid (HG1.out.trans (hb.mono HG1.out.size))
  have HR2 : Hid (w2.heap[w.heap.size + 1 + 1]? = some (.cells (Go.Lib.byteCells zero32).toArray 47 (0, 0))) := Lib.hid ((hb.block _ (Array.getElem?_eq_some_iff.1 HZ1.out).1).trans HZ1.out)
  have HOf : Hid (Calls Tryd.prog 24 #[.slice q 65 k] w2 fun e w' => e = .returned (dig D) ∧ Below w2.heap.size w2 w') := Lib.hid (by
    obtain ⟨q9, c9, he, -, hb9⟩ := owns_bytes ho HLe.out
    simp only [Value.slice.injEq, true_and] at he
    obtain ⟨rfl, rfl⟩ := he
    have h := refOf_any q k (1 :: (D1 ++ D2)) w2 hb9 (by rw [HLe.out]; decide)
    rw [HLe.out, HD.out] at h
    exact h)
  unfold dig at HOf
  clear ho hb
  go_wp2_with fail
  refine HOf.out.mono ?_
  rintro e w3 ⟨rfl, hb3⟩
  have HG3 : Hid (Below w.heap.size w w3) := Lib.hid (HG2.out.trans (hb3.mono HG2.out.size))
  have HR3 : Hid (w3.heap[w.heap.size + 1 + 1]? = some (.cells (Go.Lib.byteCells zero32).toArray 47 (0, 0))) := Lib.hid ((hb3.block _ (Array.getElem?_eq_some_iff.1 HR2.out).1).trans HR2.out)
  have HI := Lib.hid (d32_size D HDl.out)
  have HZ := Lib.hid (zero_size D HDl.out)
  have H1 := Lib.hid (dig_one D)
  clear hb3
  go_wp2_with (refine wpList_store_row rfl 47 (.tmp 4) (.tmp 8) rfl (w.heap.size + 1 + 1) (Go.Lib.byteCells D).toArray rfl rfl 47 _ HR3.out HI.out HZ.out H1.out ?_)
  exact bodyPost_ret (results_cell_row rfl _ _ (w.heap.size + 1 + 1) 47 (Go.Lib.byteCells D).toArray (0, 0) _ rfl (setRow_heap w3 _ _ _ _ _ HR3.out) Tryd.underlying47 rfl HI.out) rfl ⟨rfl, HG3.out.trans ⟨rfl, rfl, rfl, by simp, fun k hk => setRow_other w3 _ k _ (by omega)⟩⟩

set_option maxRecDepth 100000 in
set_option maxHeartbeats 4000000 in
theorem bookLeaf_any (p : Option Addr) (c : Nat) (l : List UInt8) (w : World) (hT : Tab w) (hB : Bytes w.heap.size w.heap.size p l w) (hc : l.length ≤ c) (hm : l.length ≤ 140737488351232) :
    Calls Tryd.prog 58 #[.slice p l.length c] w fun e w' => e = .returned (dig (shaL (0 :: l))) ∧ Below w.heap.size w w' := by
  obtain ⟨D, hD⟩ : ∃ D, shaL (0 :: l) = D := ⟨_, rfl⟩
  have HDl : Hid (D.length = 32) := Lib.hid (by rw [← hD]; exact sumI_length _ _ _)
  obtain ⟨v1, hv1⟩ : ∃ v, v = w.alloc (.cells (Go.Lib.byteCells zero32).toArray 48) := ⟨_, rfl⟩
  have hsz1 : v1.heap.size = w.heap.size + 1 := by rw [hv1]; simp
  have HG1 : Hid (Below w.heap.size w v1) := Lib.hid (by rw [hv1]; exact (Below.refl _ w).alloc (Nat.le_refl _) _)
  have HR1 : Hid (v1.heap[w.heap.size]? = some (.cells (Go.Lib.byteCells zero32).toArray 48 (0, 0))) := Lib.hid (by rw [hv1]; exact heap_last _ _)
  obtain ⟨v2, hv2⟩ : ∃ v, v = v1.alloc (.cells #[.int .u8 0] 5 (1, 2)) := ⟨_, rfl⟩
  have hb12 : Below v1.heap.size v1 v2 := by rw [hv2]; exact (Below.refl _ _).alloc (Nat.le_refl _) _
  have HG2 : Hid (Below w.heap.size w v2) := Lib.hid (HG1.out.trans (hb12.mono HG1.out.size))
  have HR2 : Hid (v2.heap[w.heap.size]? = some (.cells (Go.Lib.byteCells zero32).toArray 48 (0, 0))) := Lib.hid ((hb12.block _ (by omega)).trans HR1.out)
  have hL2 : v2.heap[w.heap.size + 1]? = some (.cells #[.int .u8 0] 5 (1, 2)) := by rw [hv2, ← hsz1]; exact heap_last _ _
  have hsz2 : v2.heap.size = w.heap.size + 1 + 1 := by rw [hv2]; simp [hsz1]
  have HSum := Lib.hid (sum_two (some ⟨w.heap.size + 1, 0, none⟩) 1 [0] p c l v2 (hT.below HG2.out) (mark_bytes (L := [0]) hL2 (by omega) (by omega)) (by decide) (by decide) ((hB.keep HG2.out).at HG2.out.size HG2.out.size) hc hm v2 (Below.refl _ _))
  rw [show sumI firstI 0 ([0] ++ l) = D from hD, hsz2] at HSum
  rw [hD]
  have HV3 : Hid ((((w.alloc (.cells (Go.Lib.byteCells zero32).toArray 48)).alloc (.cells #[.int .u8 0] 5 (1, 2))).alloc (.cells #[.slice (some ⟨w.heap.size + 1, 0, none⟩) 1 1, .slice p l.length c] 28)) = v2.alloc (.cells #[.slice (some ⟨w.heap.size + 1, 0, none⟩) 1 1, .slice p l.length c] 28)) := Lib.hid (by rw [hv2, hv1])
  have HR3 : Hid ((v2.alloc (.cells #[.slice (some ⟨w.heap.size + 1, 0, none⟩) 1 1, .slice p l.length c] 28)).heap[w.heap.size]? = some (.cells (Go.Lib.byteCells zero32).toArray 48 (0, 0))) := Lib.hid (by rw [(MapKept.heap_alloc _ _).2 _ (by omega)]; exact HR2.out)
  have kc := fun (w : World) (C : Array Value) (n c : Nat) => Lib.run_convert_bytes_const (P := Tryd.prog) w 28 5 C n c Tryd.underlying28 Tryd.underlying5
  have kc1 := fun (w : World) (o : Obj) (C : Array Value) (n c : Nat) => kc (w.alloc o) C n c
  simp only [World.size_alloc] at kc1
  have HSz2 : Hid (w.heap.size + 1 ≤ v2.heap.size) := Lib.hid (by omega)
  have HG4 : Hid (∀ w', Below (w.heap.size + 1 + 1) v2 w' → Below w.heap.size w w') := Lib.hid (fun w' h => HG2.out.trans (h.mono (by omega)))
  unfold dig at HSum ⊢
  clear hD hv1 hv2 hsz1 hsz2 hb12 hL2 hT hB hc hm
  go_enter Tryd.func58, Tryd.ntmps58
  go_wp2_with fail
  refine calls_at HV3.out ?_
  refine HSum.out.mono ?_
  rintro e w4 ⟨rfl, hb4⟩
  have HR4 : Hid (w4.heap[w.heap.size]? = some (.cells (Go.Lib.byteCells zero32).toArray 48 (0, 0))) := Lib.hid ((hb4.block _ (by omega)).trans HR2.out)
  have HGf : Hid (Below w.heap.size w w4) := Lib.hid (HG4.out _ hb4)
  have HI := Lib.hid (dig_size D HDl.out)
  have HZ := Lib.hid (zero_size D HDl.out)
  have H1 := Lib.hid (dig_one D)
  clear hb4 kc kc1
  go_wp2_with (refine wpList_store_row rfl 48 (.tmp 2) (.tmp 7) rfl w.heap.size (Go.Lib.byteCells D).toArray rfl rfl 48 _ HR4.out HI.out HZ.out H1.out ?_)
  exact bodyPost_ret (results_cell_row rfl _ _ w.heap.size 48 (Go.Lib.byteCells D).toArray (0, 0) _ rfl (setRow_heap w4 _ _ _ _ _ HR4.out) Tryd.underlying48 rfl HI.out) rfl ⟨rfl, HGf.out.trans ⟨rfl, rfl, rfl, by simp, fun k hk => setRow_other w4 _ k _ (by omega)⟩⟩

set_option maxRecDepth 100000 in
set_option maxHeartbeats 8000000 in
theorem bookPair_any (D1 D2 : List UInt8) (n1 : D1.length = 32) (n2 : D2.length = 32) (w : World) (hT : Tab w) :
    Calls Tryd.prog 60 #[dig D1, dig D2] w fun e w' => e = .returned (dig (shaL (1 :: (D1 ++ D2)))) ∧ Below w.heap.size w w' := by
  obtain ⟨D, hD⟩ : ∃ D, shaL (1 :: (D1 ++ D2)) = D := ⟨_, rfl⟩
  have HDl : Hid (D.length = 32) := Lib.hid (by rw [← hD]; exact sumI_length _ _ _)
  have HD := Lib.hid hD
  have HT := Lib.hid hT
  have HYs := Lib.hid (zero_size D HDl.out)
  rw [hD]
  obtain ⟨v1, hv1⟩ : ∃ v, v = ((w.alloc (.cells (Go.Lib.byteCells D1).toArray 48)).alloc (.cells (Go.Lib.byteCells D2).toArray 48)).alloc (.cells (Go.Lib.byteCells zero32).toArray 48) := ⟨_, rfl⟩
  have HA1 : Hid (v1.heap[w.heap.size]? = some (.cells (Go.Lib.byteCells D1).toArray 48 (0, 0))) := Lib.hid (by
    rw [hv1, (MapKept.heap_alloc _ _).2 _ (by simp; omega), (MapKept.heap_alloc _ _).2 _ (by simp)]; exact heap_last _ _)
  have HB1 : Hid (v1.heap[w.heap.size + 1]? = some (.cells (Go.Lib.byteCells D2).toArray 48 (0, 0))) := Lib.hid (by
    have h := heap_last (w.alloc (.cells (Go.Lib.byteCells D1).toArray 48)) (.cells (Go.Lib.byteCells D2).toArray 48)
    rw [World.size_alloc] at h
    rw [hv1, (MapKept.heap_alloc _ _).2 _ (by simp)]; exact h)
  have HZ1 : Hid (v1.heap[w.heap.size + 1 + 1]? = some (.cells (Go.Lib.byteCells zero32).toArray 48 (0, 0))) := Lib.hid (by
    have h := heap_last ((w.alloc (.cells (Go.Lib.byteCells D1).toArray 48)).alloc (.cells (Go.Lib.byteCells D2).toArray 48)) (.cells (Go.Lib.byteCells zero32).toArray 48)
    rw [World.size_alloc, World.size_alloc] at h
    rw [hv1]; exact h)
  have HG1 : Hid (Below w.heap.size w v1) := Lib.hid (by rw [hv1]; exact (((Below.refl _ w).alloc (Nat.le_refl _) _).alloc (by simp) _).alloc (by simp; omega) _)
  have hsz1 : v1.heap.size = w.heap.size + 1 + 1 + 1 := by rw [hv1]; simp
  have HV1 := Lib.hid hv1.symm
  unfold dig
  clear hD hv1 hT
  go_enter Tryd.func60, Tryd.ntmps60
  go_wp2_with fail
  refine code_at HV1.out ?_
  refine wp_region_held_drew (S := fun _ => True) (by kernel_rfl) trivial (fun hHeld => ?_)
  first | (refine held_take 2 _ rfl (by kernel_rfl) (by kernel_rfl) (by kernel_rfl) (v := ?_) (fun _ _ _ h => h) ?_ rfl hHeld ?_; rotate_left; focus (intro w hS; skip; go_simp; try with_reducible rfl)) | (refine held_skip 2 _ rfl (by kernel_rfl) (by kernel_rfl) (by kernel_rfl) (fun _ _ _ h => h) rfl hHeld ?_)
  show wpAnyH _ _ _ _ _ _ _ { tmps := _, defers := _ } _
  try simp only [Act.put, List.setIfInBounds_toArray, List.set_cons_zero, List.set_cons_succ]
  first | (refine held_take 3 _ rfl (by kernel_rfl) (by kernel_rfl) (by kernel_rfl) (v := ?_) (fun _ _ _ h => h) ?_ rfl hHeld ?_; rotate_left; focus (intro w hS; skip; go_simp; try with_reducible rfl)) | (refine held_skip 3 _ rfl (by kernel_rfl) (by kernel_rfl) (by kernel_rfl) (fun _ _ _ h => h) rfl hHeld ?_)
  show wpAnyH _ _ _ _ _ _ _ { tmps := _, defers := _ } _
  try simp only [Act.put, List.setIfInBounds_toArray, List.set_cons_zero, List.set_cons_succ]
  refine held_next 0 _ (by kernel_rfl) rfl rfl fun K hK => ?_
  go_simp
  obtain ⟨y1, hu⟩ : ∃ v, v = (v1.alloc (.cells #[.int .u8 1] 5)).drew := ⟨_, rfl⟩
  have HX1 : Hid (y1.heap[v1.heap.size]? = some (.cells #[.int .u8 1] 5 (0, 0))) := Lib.hid (by rw [hu]; exact heap_last v1 _)
  have HQ1 : Hid (Below v1.heap.size v1 y1) := Lib.hid (by rw [hu]; exact below_drawn 1 ((Below.refl v1.heap.size v1).alloc (Nat.le_refl _) _))
  have HU1 := Lib.hid hu.symm
  rw [hsz1] at HX1
  clear hu
  rw [HU1.out]
  refine hK _ _ trivial (fun hHeld => ?_)
  clear hK K
  show wpAnyH _ _ _ _ _ _ _ { tmps := _, defers := _ } _
  try simp only [Act.put, List.setIfInBounds_toArray, List.set_cons_zero, List.set_cons_succ]
  refine held_next 1 _ (by kernel_rfl) rfl rfl fun K hK => ?_
  obtain ⟨y2, hrun, ha, hoth, hsz, hbel⟩ := convert_mark y1 (w.heap.size + 1 + 1 + 1) #[.int .u8 1] 1 1 HX1.out
  go_simp
  have HX2 := Lib.hid ha
  have HQ2 : Hid (Below v1.heap.size v1 y2) := Lib.hid (HQ1.out.trans (hbel _ (by rw [hsz1]; exact Nat.le_refl _)))
  clear hoth hsz hbel
  refine hK _ _ trivial (fun hHeld => ?_)
  clear hK K hrun ha
  show wpAnyH _ _ _ _ _ _ _ { tmps := _, defers := _ } _
  try simp only [Act.put, List.setIfInBounds_toArray, List.set_cons_zero, List.set_cons_succ]
  refine held_next 4 _ (by kernel_rfl) rfl rfl fun K hK => ?_
  go_simp
  obtain ⟨y3, hu⟩ : ∃ v, v = y2.alloc (.cells #[.slice (some ⟨w.heap.size + 1 + 1 + 1, 0, none⟩) 1 1, .slice (some ⟨w.heap.size, 0, none⟩) 32 32, .slice (some ⟨w.heap.size + 1, 0, none⟩) 32 32] 28) := ⟨_, rfl⟩
  obtain ⟨G3, hG3⟩ : ∃ G, y2.heap.size = G := ⟨_, rfl⟩
  have HX3 : Hid (y3.heap[G3]? = some (.cells #[.slice (some ⟨w.heap.size + 1 + 1 + 1, 0, none⟩) 1 1, .slice (some ⟨w.heap.size, 0, none⟩) 32 32, .slice (some ⟨w.heap.size + 1, 0, none⟩) 32 32] 28 (0, 0))) := Lib.hid (by rw [hu, ← hG3]; exact heap_last _ _)
  have HQ3 : Hid (Below v1.heap.size v1 y3) := Lib.hid (by rw [hu]; exact HQ2.out.alloc HQ2.out.size _)
  have HL3 : Hid (y3.heap[w.heap.size + 1 + 1 + 1]? = some (.cells #[.int .u8 1] 5 (1, 2))) := Lib.hid (by rw [hu, (MapKept.heap_alloc _ _).2 _ (Array.getElem?_eq_some_iff.1 HX2.out).1]; exact HX2.out)
  rw [← hu, hG3]
  clear hu hG3
  refine hK _ _ trivial (fun hHeld => ?_)
  clear hK K
  show wpAnyH _ _ _ _ _ _ _ { tmps := _, defers := _ } _
  try simp only [Act.put, List.setIfInBounds_toArray, List.set_cons_zero, List.set_cons_succ]
  refine held_next 5 _ (by kernel_rfl) rfl rfl fun K hK => ?_
  go_simp
  have hA3 : y3.heap[w.heap.size]? = some (.cells (Go.Lib.byteCells D1).toArray 48 (0, 0)) := (HQ3.out.block _ (by rw [hsz1]; omega)).trans HA1.out
  have hB3 : y3.heap[w.heap.size + 1]? = some (.cells (Go.Lib.byteCells D2).toArray 48 (0, 0)) := (HQ3.out.block _ (by rw [hsz1]; omega)).trans HB1.out
  have hl3 := (Array.getElem?_eq_some_iff.1 HX3.out).1
  have hla := (Array.getElem?_eq_some_iff.1 hA3).1
  have hlb := (Array.getElem?_eq_some_iff.1 hB3).1
  have hlc := (Array.getElem?_eq_some_iff.1 HL3.out).1
  have hSum := sums_any (some ⟨G3, 0, none⟩) 3 3 (by decide) (triF (some ⟨w.heap.size + 1 + 1 + 1, 0, none⟩) (some ⟨w.heap.size, 0, none⟩) (some ⟨w.heap.size + 1, 0, none⟩)) (triF 1 32 32) (triF [1] D1 D2) y3 (HT.out.below (HG1.out.trans (HQ3.out.mono HG1.out.size)))
    (parts_three (by rw [cell_of_heap HX3.out]; rfl) (by rw [cell_of_heap HX3.out, n1]; rfl) (by rw [cell_of_heap HX3.out, n2]; rfl) hl3 (mark_bytes (L := [1]) HL3.out hlc (by omega)) (row_bytes hA3 hla (by omega)) (row_bytes hB3 hlb (by omega)) (by decide) (by omega) (by omega) (by decide) (by omega) (by omega))
  rw [cat_three1, HD.out] at hSum
  unfold dig at hSum
  refine hSum.mono ?_
  rintro e w7 ⟨rfl, hb7⟩
  have HQ7 : Hid (Below v1.heap.size v1 w7) := Lib.hid (HQ3.out.trans (hb7.mono HQ3.out.size))
  show K _ _
  refine hK _ _ trivial (fun hHeld => ?_)
  clear hK K
  show wpAnyH _ _ _ _ _ _ _ { tmps := _, defers := _ } _
  try simp only [Act.put, List.setIfInBounds_toArray, List.set_cons_zero, List.set_cons_succ]
  refine held_next 6 _ (by kernel_rfl) rfl rfl fun K hK => ?_
  have HR7 : w7.heap[w.heap.size + 1 + 1]? = some (.cells (Go.Lib.byteCells zero32).toArray 48 (0, 0)) := (HQ7.out.block _ (by rw [hsz1]; omega)).trans HZ1.out
  have hV8 := setRow_heap w7 (w.heap.size + 1 + 1) _ (Go.Lib.byteCells D).toArray _ _ HR7
  have hG8 : Below w.heap.size w (w7.setRow (w.heap.size + 1 + 1) (Go.Lib.byteCells D).toArray) := (HG1.out.trans (HQ7.out.mono HG1.out.size)).trans ⟨rfl, rfl, rfl, by simp, fun j hj => setRow_other w7 _ j _ (by omega)⟩
  refine wp_store_row 48 (.tmp 4) (.tmp 10) rfl (w.heap.size + 1 + 1) (Go.Lib.byteCells D).toArray rfl rfl 48 _ HR7 (dig_size D HDl.out) HYs.out (dig_one D) ?_
  refine hK _ _ trivial (fun hHeld => ?_)
  clear hK K
  show wpAnyH _ _ _ _ _ _ _ { tmps := _, defers := _ } _
  try simp only [Act.put, List.setIfInBounds_toArray, List.set_cons_zero, List.set_cons_succ]
  refine wpAnyH_done (by kernel_rfl) ?_ _
  go_wp2_with fail
  exact bodyPost_ret (results_cell_row rfl _ _ (w.heap.size + 1 + 1) 48 _ (0, 0) _ rfl hV8 Tryd.underlying48 rfl (dig_size D HDl.out)) rfl ⟨rfl, hG8⟩
end Go.Proofs.YtjjahcidncnogaaDoor
