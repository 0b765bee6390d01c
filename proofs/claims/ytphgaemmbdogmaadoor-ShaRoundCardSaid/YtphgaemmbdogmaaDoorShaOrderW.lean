/- ShaOrder, walked. -/
import Derived.Test.YtphgaemmbdogmaaDoorShaTab
import Derived.Test.YtphgaemmbdogmaaDoorShaCmp
import Derived.Test.YtphgaemmbdogmaaDoorHeld
namespace Go.Proofs.YtphgaemmbdogmaaDoor
open Go.ChangeShapes Go.WideShapes Go.ChangeAt Go.RowKit Go.Lib

/-- Three digests in blocks of their own. -/
structure Ord3 (B : Nat) (D1 D2 D3 : List UInt8) (v w : World) : Prop where
  r1 : w.rangeAt B 0 (byteCells D1)
  r2 : w.rangeAt (B + 1) 0 (byteCells D2)
  r3 : w.rangeAt (B + 1 + 1) 0 (byteCells D3)
  lt : B + 1 + 1 < w.heap.size
  g : Below v.heap.size v w
theorem range_below {w w' : World} {b o : Nat} {cs : List Value} (h : w.rangeAt b o cs) (hb : Below w.heap.size w w') (hlt : b < w.heap.size) : w'.rangeAt b o cs := fun j x hx => (hb.cell (p := ⟨b, o + j, none⟩) hlt).trans (h j x hx)
theorem Ord3.below {B : Nat} {D1 D2 D3 : List UInt8} {v w w' : World} (h : Ord3 B D1 D2 D3 v w) (hb : Below w.heap.size w w') : Ord3 B D1 D2 D3 v w' :=
  ⟨range_below h.r1 hb (by have := h.lt; omega), range_below h.r2 hb (by have := h.lt; omega), range_below h.r3 hb h.lt, Nat.lt_of_lt_of_le h.lt hb.size, h.g.trans (hb.mono h.g.size)⟩
theorem Ord3.drew {B : Nat} {D1 D2 D3 : List UInt8} {v w : World} (h : Ord3 B D1 D2 D3 v w) : Ord3 B D1 D2 D3 v w.drew := ⟨h.r1, h.r2, h.r3, h.lt, below_drawn 1 h.g⟩
theorem range_bytes {w : World} {B b K : Nat} {D : List UInt8} (h : w.rangeAt B 0 (byteCells D)) (hB : B < b) (hK : B ≠ K) : Bytes b K (some ⟨B, 0, none⟩) D w := fun _ =>
  ⟨B, 0, rfl, hB, hK, fun j hj => h j _ (by simp [byteCells, List.getElem?_eq_getElem hj])⟩

set_option maxRecDepth 100000 in
set_option maxHeartbeats 16000000 in
theorem order_walk (D1 D2 D3 : List UInt8) (W : World) (hT : Tab W) (n1 : D1.length = 32) (n2 : D2.length = 32) (n3 : D3.length = 32) (x y : Int) (eq : Bool) (hx : compareBytes D1 D2 = x) (hy : compareBytes D2 D1 = y) (heq : decide (D1 = D2) = eq)
    (hc : (x = 0 ∧ y = 0 ∧ eq = true) ∨ (x = 1 ∧ y = -1 ∧ eq = false) ∨ (x = -1 ∧ y = 1 ∧ eq = false)) :
    Calls Tryd.prog 11 #[dig D1, dig D2, dig D3] W fun e w' => e = .returned (.bool true) ∧ Below W.heap.size W w' := by
  obtain ⟨v, hv⟩ : ∃ v, v = ((W.alloc (.cells (byteCells D1).toArray 24)).alloc (.cells (byteCells D2).toArray 24)).alloc (.cells (byteCells D3).toArray 24) := ⟨_, rfl⟩
  have HV := Lib.hid hv
  have HG : Hid (Below W.heap.size W v) := Lib.hid (by rw [hv]; exact (((Below.refl _ W).alloc (Nat.le_refl _) _).alloc (by simp) _).alloc (by simp; omega) _)
  have HOrd : Hid (Ord3 W.heap.size D1 D2 D3 v v) := Lib.hid (by
    refine ⟨?_, ?_, ?_, by rw [hv]; simp, Below.refl _ _⟩
    · have h : v.heap[W.heap.size]? = some (.cells (byteCells D1).toArray 24 (0, 0)) := by
        rw [hv, (MapKept.heap_alloc _ _).2 _ (by simp; omega), (MapKept.heap_alloc _ _).2 _ (by simp), (MapKept.heap_alloc _ _).1]
      intro j x hx
      rw [cell_of_heap h, Nat.zero_add, List.getElem?_toArray, hx]
    · have h : v.heap[W.heap.size + 1]? = some (.cells (byteCells D2).toArray 24 (0, 0)) := by
        rw [hv, (MapKept.heap_alloc _ _).2 _ (by simp)]
        have h := (MapKept.heap_alloc (W.alloc (.cells (byteCells D1).toArray 24)) (.cells (byteCells D2).toArray 24)).1
        simp only [World.size_alloc] at h
        exact h
      intro j x hx
      rw [cell_of_heap h, Nat.zero_add, List.getElem?_toArray, hx]
    · have h : v.heap[W.heap.size + 1 + 1]? = some (.cells (byteCells D3).toArray 24 (0, 0)) := by
        rw [hv]
        have h := (MapKept.heap_alloc ((W.alloc (.cells (byteCells D1).toArray 24)).alloc (.cells (byteCells D2).toArray 24)) (.cells (byteCells D3).toArray 24)).1
        simp only [World.size_alloc] at h
        exact h
      intro j x hx
      rw [cell_of_heap h, Nat.zero_add, List.getElem?_toArray, hx])
  have HT := Lib.hid (hT.below HG.out)
  have HWorks := Lib.hid (fun w (h : Tab w) => works_any w h)
  obtain ⟨z, hz⟩ : ∃ z, compareBytes D2 D3 = z := ⟨_, rfl⟩
  obtain ⟨u, hu⟩ : ∃ u, compareBytes D1 D3 = u := ⟨_, rfl⟩
  have HTr : Hid (x ≤ 0 → z ≤ 0 → u ≤ 0) := Lib.hid (by rw [← hx, ← hz, ← hu]; exact cmp_trans D1 D2 D3)
  have H12 := Lib.hid (fun w => shaCompare_any D1 D2 n1 n2 w)
  have H21 := Lib.hid (fun w => shaCompare_any D2 D1 n2 n1 w)
  have H23 := Lib.hid (fun w => shaCompare_any D2 D3 n2 n3 w)
  have H13 := Lib.hid (fun w => shaCompare_any D1 D3 n1 n3 w)
  have H11 := Lib.hid (fun w => shaCompare_any D1 D1 n1 n1 w)
  have HQ : Hid (∀ w, Ord3 W.heap.size D1 D2 D3 v w → Calls Tryd.prog 42 #[.slice (some ⟨W.heap.size, 0, none⟩) 32 32, .slice (some ⟨W.heap.size + 1, 0, none⟩) 32 32] w fun e w' => e = .returned (.int .i64 x) ∧ w' = w) := Lib.hid (fun w h => by
    have k := compare_any (W.heap.size + 2) (W.heap.size + 2) _ _ D1 D2 32 32 w (range_bytes h.r1 (by omega) (by omega)) (range_bytes h.r2 (by omega) (by omega))
    rw [n1, n2, hx] at k
    exact k)
  have heq2 : ∀ w, (Op.equalIn 10000 24 (.agg (byteCells D1).toArray) (.agg (byteCells D2).toArray)).run Tryd.prog w = .ok eq w := fun w => by
    have h := dig_eq D1 D2 n1 n2 w
    rw [heq] at h
    exact h
  have h11 : compareBytes D1 D1 = 0 := (cmp_zero D1 D1).2 rfl
  rw [hx] at H12
  rw [hy] at H21
  rw [hz] at H23
  rw [hu] at H13
  rw [h11] at H11
  unfold dig at H12 H21 H23 H13 H11
  have I1 : Hid ((Tryd.prog.info? 24).map (·.size) = some (byteCells D1).length) := Lib.hid (by rw [bc_len, n1]; kernel_rfl)
  have I2 : Hid ((Tryd.prog.info? 24).map (·.size) = some (byteCells D2).length) := Lib.hid (by rw [bc_len, n2]; kernel_rfl)
  have I3 : Hid ((Tryd.prog.info? 24).map (·.size) = some (byteCells D3).length) := Lib.hid (by rw [bc_len, n3]; kernel_rfl)
  clear hv hT n1 n2 n3 hx hy hz hu heq h11
  unfold dig
  rcases hc with ⟨rfl, rfl, rfl⟩ | ⟨rfl, rfl, rfl⟩ | ⟨rfl, rfl, rfl⟩
  all_goals
    go_enter Tryd.func11, Tryd.ntmps11
    go_wp2_with fail
    rw [← HV.out]
    refine wp_region_held_drew (S := Ord3 W.heap.size D1 D2 D3 v) (by kernel_rfl) HOrd.out.drew (fun hHeld => ?_)
    refine held_load 0 _ rfl (by kernel_rfl) (by kernel_rfl) (by kernel_rfl) 24 (.tmp 3) rfl (W.heap.size) 0 (byteCells D1) _ (fun _ _ _ h => h) rfl (fun _ h => h.r1) Tryd.underlying24 rfl I1.out rfl hHeld ?_
    show wpAnyH _ _ _ _ _ _ _ { tmps := _, defers := _ } _
    try simp only [Act.put, List.setIfInBounds_toArray, List.set_cons_zero, List.set_cons_succ]
    refine held_load 1 _ rfl (by kernel_rfl) (by kernel_rfl) (by kernel_rfl) 24 (.tmp 4) rfl (W.heap.size + 1) 0 (byteCells D2) _ (fun _ _ _ h => h) rfl (fun _ h => h.r2) Tryd.underlying24 rfl I2.out rfl hHeld ?_
    show wpAnyH _ _ _ _ _ _ _ { tmps := _, defers := _ } _
    try simp only [Act.put, List.setIfInBounds_toArray, List.set_cons_zero, List.set_cons_succ]
    refine held_load 3 _ rfl (by kernel_rfl) (by kernel_rfl) (by kernel_rfl) 24 (.tmp 4) rfl (W.heap.size + 1) 0 (byteCells D2) _ (fun _ _ _ h => h) rfl (fun _ h => h.r2) Tryd.underlying24 rfl I2.out rfl hHeld ?_
    show wpAnyH _ _ _ _ _ _ _ { tmps := _, defers := _ } _
    try simp only [Act.put, List.setIfInBounds_toArray, List.set_cons_zero, List.set_cons_succ]
    refine held_load 4 _ rfl (by kernel_rfl) (by kernel_rfl) (by kernel_rfl) 24 (.tmp 5) rfl (W.heap.size + 1 + 1) 0 (byteCells D3) _ (fun _ _ _ h => h) rfl (fun _ h => h.r3) Tryd.underlying24 rfl I3.out rfl hHeld ?_
    show wpAnyH _ _ _ _ _ _ _ { tmps := _, defers := _ } _
    try simp only [Act.put, List.setIfInBounds_toArray, List.set_cons_zero, List.set_cons_succ]
    refine held_load 6 _ rfl (by kernel_rfl) (by kernel_rfl) (by kernel_rfl) 24 (.tmp 3) rfl (W.heap.size) 0 (byteCells D1) _ (fun _ _ _ h => h) rfl (fun _ h => h.r1) Tryd.underlying24 rfl I1.out rfl hHeld ?_
    show wpAnyH _ _ _ _ _ _ _ { tmps := _, defers := _ } _
    try simp only [Act.put, List.setIfInBounds_toArray, List.set_cons_zero, List.set_cons_succ]
    refine held_load 7 _ rfl (by kernel_rfl) (by kernel_rfl) (by kernel_rfl) 24 (.tmp 5) rfl (W.heap.size + 1 + 1) 0 (byteCells D3) _ (fun _ _ _ h => h) rfl (fun _ h => h.r3) Tryd.underlying24 rfl I3.out rfl hHeld ?_
    show wpAnyH _ _ _ _ _ _ _ { tmps := _, defers := _ } _
    try simp only [Act.put, List.setIfInBounds_toArray, List.set_cons_zero, List.set_cons_succ]
    show wpAnyH _ _ _ _ _ _ _ { tmps := _, defers := _ } _
    try simp only [Act.put, List.setIfInBounds_toArray, List.set_cons_zero, List.set_cons_succ]
    refine held_next 2 _ (by kernel_rfl) rfl rfl fun K hK => ?_
    go_simp
    refine (H12.out _).mono ?_
    rintro e w1 ⟨rfl, hb1⟩
    show K _ _
    refine hK _ _ (hHeld.below hb1) (fun hHeld => ?_)
    clear hK K hb1
    show wpAnyH _ _ _ _ _ _ _ { tmps := _, defers := _ } _
    try simp only [Act.put, List.setIfInBounds_toArray, List.set_cons_zero, List.set_cons_succ]
    refine held_next 5 _ (by kernel_rfl) rfl rfl fun K hK => ?_
    go_simp
    refine (H23.out _).mono ?_
    rintro e w1 ⟨rfl, hb1⟩
    show K _ _
    refine hK _ _ (hHeld.below hb1) (fun hHeld => ?_)
    clear hK K hb1
    show wpAnyH _ _ _ _ _ _ _ { tmps := _, defers := _ } _
    try simp only [Act.put, List.setIfInBounds_toArray, List.set_cons_zero, List.set_cons_succ]
    refine held_next 8 _ (by kernel_rfl) rfl rfl fun K hK => ?_
    go_simp
    refine (H13.out _).mono ?_
    rintro e w1 ⟨rfl, hb1⟩
    show K _ _
    refine hK _ _ (hHeld.below hb1) (fun hHeld => ?_)
    clear hK K hb1
    first | (refine held_take 9 _ rfl (by kernel_rfl) (by kernel_rfl) (by kernel_rfl) (v := ?_) (fun _ _ _ h => h) ?_ rfl hHeld ?_; rotate_left; focus (intro w hS; go_simp; try with_reducible rfl)) | (refine held_skip 9 _ rfl (by kernel_rfl) (by kernel_rfl) (by kernel_rfl) (fun _ _ _ h => h) rfl hHeld ?_)
    show wpAnyH _ _ _ _ _ _ _ { tmps := _, defers := _ } _
    try simp only [Act.put, List.setIfInBounds_toArray, List.set_cons_zero, List.set_cons_succ]
    first | (refine held_take 10 _ rfl (by kernel_rfl) (by kernel_rfl) (by kernel_rfl) (v := ?_) (fun _ _ _ h => h) ?_ rfl hHeld ?_; rotate_left; focus (intro w hS; go_simp; try with_reducible rfl)) | (refine held_skip 10 _ rfl (by kernel_rfl) (by kernel_rfl) (by kernel_rfl) (fun _ _ _ h => h) rfl hHeld ?_)
    show wpAnyH _ _ _ _ _ _ _ { tmps := _, defers := _ } _
    try simp only [Act.put, List.setIfInBounds_toArray, List.set_cons_zero, List.set_cons_succ]
    first | (refine held_take 11 _ rfl (by kernel_rfl) (by kernel_rfl) (by kernel_rfl) (v := ?_) (fun _ _ _ h => h) ?_ rfl hHeld ?_; rotate_left; focus (intro w hS; go_simp; try with_reducible rfl)) | (refine held_skip 11 _ rfl (by kernel_rfl) (by kernel_rfl) (by kernel_rfl) (fun _ _ _ h => h) rfl hHeld ?_)
    show wpAnyH _ _ _ _ _ _ _ { tmps := _, defers := _ } _
    try simp only [Act.put, List.setIfInBounds_toArray, List.set_cons_zero, List.set_cons_succ]
    show wpAnyH _ _ _ _ _ _ _ { tmps := _, defers := _ } _
    try simp only [Act.put, List.setIfInBounds_toArray, List.set_cons_zero, List.set_cons_succ]
    refine wpAnyH_done (by kernel_rfl) ?_ _
    have hOrd := Lib.hid hHeld
    clear hHeld
    go_wp2_with fail
    refine wp_region_held_drew (S := Ord3 W.heap.size D1 D2 D3 v) (by kernel_rfl) hOrd.out.drew (fun hHeld => ?_)
    clear hOrd
    first | (refine held_take 0 _ rfl (by kernel_rfl) (by kernel_rfl) (by kernel_rfl) (v := ?_) (fun _ _ _ h => h) ?_ rfl hHeld ?_; rotate_left; focus (intro w hS; go_simp; try with_reducible rfl)) | (refine held_skip 0 _ rfl (by kernel_rfl) (by kernel_rfl) (by kernel_rfl) (fun _ _ _ h => h) rfl hHeld ?_)
    show wpAnyH _ _ _ _ _ _ _ { tmps := _, defers := _ } _
    try simp only [Act.put, List.setIfInBounds_toArray, List.set_cons_zero, List.set_cons_succ]
    first | (refine held_take 1 _ rfl (by kernel_rfl) (by kernel_rfl) (by kernel_rfl) (v := ?_) (fun _ _ _ h => h) ?_ rfl hHeld ?_; rotate_left; focus (intro w hS; go_simp; try with_reducible rfl)) | (refine held_skip 1 _ rfl (by kernel_rfl) (by kernel_rfl) (by kernel_rfl) (fun _ _ _ h => h) rfl hHeld ?_)
    show wpAnyH _ _ _ _ _ _ _ { tmps := _, defers := _ } _
    try simp only [Act.put, List.setIfInBounds_toArray, List.set_cons_zero, List.set_cons_succ]
    first | (refine held_take 2 _ rfl (by kernel_rfl) (by kernel_rfl) (by kernel_rfl) (v := ?_) (fun _ _ _ h => h) ?_ rfl hHeld ?_; rotate_left; focus (intro w hS; go_simp; try with_reducible rfl)) | (refine held_skip 2 _ rfl (by kernel_rfl) (by kernel_rfl) (by kernel_rfl) (fun _ _ _ h => h) rfl hHeld ?_)
    show wpAnyH _ _ _ _ _ _ _ { tmps := _, defers := _ } _
    try simp only [Act.put, List.setIfInBounds_toArray, List.set_cons_zero, List.set_cons_succ]
    show wpAnyH _ _ _ _ _ _ _ { tmps := _, defers := _ } _
    try simp only [Act.put, List.setIfInBounds_toArray, List.set_cons_zero, List.set_cons_succ]
    refine held_next 3 _ (by kernel_rfl) rfl rfl fun K hK => ?_
    go_simp
    refine (HQ.out _ hHeld).mono ?_
    rintro e w1 ⟨rfl, rfl⟩
    show K _ _
    refine hK _ _ hHeld (fun hHeld => ?_)
    clear hK K
    first | (refine held_take 4 _ rfl (by kernel_rfl) (by kernel_rfl) (by kernel_rfl) (v := ?_) (fun _ _ _ h => h) ?_ rfl hHeld ?_; rotate_left; focus (intro w hS; go_simp; try with_reducible rfl)) | (refine held_skip 4 _ rfl (by kernel_rfl) (by kernel_rfl) (by kernel_rfl) (fun _ _ _ h => h) rfl hHeld ?_)
    show wpAnyH _ _ _ _ _ _ _ { tmps := _, defers := _ } _
    try simp only [Act.put, List.setIfInBounds_toArray, List.set_cons_zero, List.set_cons_succ]
    first | (refine held_take 5 _ rfl (by kernel_rfl) (by kernel_rfl) (by kernel_rfl) (v := ?_) (fun _ _ _ h => h) ?_ rfl hHeld ?_; rotate_left; focus (intro w hS; go_simp; try with_reducible rfl)) | (refine held_skip 5 _ rfl (by kernel_rfl) (by kernel_rfl) (by kernel_rfl) (fun _ _ _ h => h) rfl hHeld ?_)
    show wpAnyH _ _ _ _ _ _ _ { tmps := _, defers := _ } _
    try simp only [Act.put, List.setIfInBounds_toArray, List.set_cons_zero, List.set_cons_succ]
    refine held_load 6 _ rfl (by kernel_rfl) (by kernel_rfl) (by kernel_rfl) 24 (.tmp 4) rfl (W.heap.size + 1) 0 (byteCells D2) _ (fun _ _ _ h => h) rfl (fun _ h => h.r2) Tryd.underlying24 rfl I2.out rfl hHeld ?_
    show wpAnyH _ _ _ _ _ _ _ { tmps := _, defers := _ } _
    try simp only [Act.put, List.setIfInBounds_toArray, List.set_cons_zero, List.set_cons_succ]
    refine held_load 7 _ rfl (by kernel_rfl) (by kernel_rfl) (by kernel_rfl) 24 (.tmp 3) rfl (W.heap.size) 0 (byteCells D1) _ (fun _ _ _ h => h) rfl (fun _ h => h.r1) Tryd.underlying24 rfl I1.out rfl hHeld ?_
    show wpAnyH _ _ _ _ _ _ _ { tmps := _, defers := _ } _
    try simp only [Act.put, List.setIfInBounds_toArray, List.set_cons_zero, List.set_cons_succ]
    first | (refine held_take 9 _ rfl (by kernel_rfl) (by kernel_rfl) (by kernel_rfl) (v := ?_) (fun _ _ _ h => h) ?_ rfl hHeld ?_; rotate_left; focus (intro w hS; go_simp; try with_reducible rfl)) | (refine held_skip 9 _ rfl (by kernel_rfl) (by kernel_rfl) (by kernel_rfl) (fun _ _ _ h => h) rfl hHeld ?_)
    show wpAnyH _ _ _ _ _ _ _ { tmps := _, defers := _ } _
    try simp only [Act.put, List.setIfInBounds_toArray, List.set_cons_zero, List.set_cons_succ]
    first | (refine held_take 10 _ rfl (by kernel_rfl) (by kernel_rfl) (by kernel_rfl) (v := ?_) (fun _ _ _ h => h) ?_ rfl hHeld ?_; rotate_left; focus (intro w hS; go_simp; try with_reducible rfl)) | (refine held_skip 10 _ rfl (by kernel_rfl) (by kernel_rfl) (by kernel_rfl) (fun _ _ _ h => h) rfl hHeld ?_)
    show wpAnyH _ _ _ _ _ _ _ { tmps := _, defers := _ } _
    try simp only [Act.put, List.setIfInBounds_toArray, List.set_cons_zero, List.set_cons_succ]
    show wpAnyH _ _ _ _ _ _ _ { tmps := _, defers := _ } _
    try simp only [Act.put, List.setIfInBounds_toArray, List.set_cons_zero, List.set_cons_succ]
    refine held_next 8 _ (by kernel_rfl) rfl rfl fun K hK => ?_
    go_simp
    refine (H21.out _).mono ?_
    rintro e w1 ⟨rfl, hb1⟩
    show K _ _
    refine hK _ _ (hHeld.below hb1) (fun hHeld => ?_)
    clear hK K hb1
    first | (refine held_take 11 _ rfl (by kernel_rfl) (by kernel_rfl) (by kernel_rfl) (v := ?_) (fun _ _ _ h => h) ?_ rfl hHeld ?_; rotate_left; focus (intro w hS; go_simp; try with_reducible rfl)) | (refine held_skip 11 _ rfl (by kernel_rfl) (by kernel_rfl) (by kernel_rfl) (fun _ _ _ h => h) rfl hHeld ?_)
    show wpAnyH _ _ _ _ _ _ _ { tmps := _, defers := _ } _
    try simp only [Act.put, List.setIfInBounds_toArray, List.set_cons_zero, List.set_cons_succ]
    first | (refine held_take 12 _ rfl (by kernel_rfl) (by kernel_rfl) (by kernel_rfl) (v := ?_) (fun _ _ _ h => h) ?_ rfl hHeld ?_; rotate_left; focus (intro w hS; go_simp; try with_reducible rfl)) | (refine held_skip 12 _ rfl (by kernel_rfl) (by kernel_rfl) (by kernel_rfl) (fun _ _ _ h => h) rfl hHeld ?_)
    show wpAnyH _ _ _ _ _ _ _ { tmps := _, defers := _ } _
    try simp only [Act.put, List.setIfInBounds_toArray, List.set_cons_zero, List.set_cons_succ]
    first | (refine held_take 13 _ rfl (by kernel_rfl) (by kernel_rfl) (by kernel_rfl) (v := ?_) (fun _ _ _ h => h) ?_ rfl hHeld ?_; rotate_left; focus (intro w hS; go_simp; try with_reducible rfl)) | (refine held_skip 13 _ rfl (by kernel_rfl) (by kernel_rfl) (by kernel_rfl) (fun _ _ _ h => h) rfl hHeld ?_)
    show wpAnyH _ _ _ _ _ _ _ { tmps := _, defers := _ } _
    try simp only [Act.put, List.setIfInBounds_toArray, List.set_cons_zero, List.set_cons_succ]
    first | (refine held_take 14 _ rfl (by kernel_rfl) (by kernel_rfl) (by kernel_rfl) (v := ?_) (fun _ _ _ h => h) ?_ rfl hHeld ?_; rotate_left; focus (intro w hS; go_simp; try with_reducible rfl)) | (refine held_skip 14 _ rfl (by kernel_rfl) (by kernel_rfl) (by kernel_rfl) (fun _ _ _ h => h) rfl hHeld ?_)
    show wpAnyH _ _ _ _ _ _ _ { tmps := _, defers := _ } _
    try simp only [Act.put, List.setIfInBounds_toArray, List.set_cons_zero, List.set_cons_succ]
    first | (refine held_take 15 _ rfl (by kernel_rfl) (by kernel_rfl) (by kernel_rfl) (v := ?_) (fun _ _ _ h => h) ?_ rfl hHeld ?_; rotate_left; focus (intro w hS; go_simp; try with_reducible rfl)) | (refine held_skip 15 _ rfl (by kernel_rfl) (by kernel_rfl) (by kernel_rfl) (fun _ _ _ h => h) rfl hHeld ?_)
    show wpAnyH _ _ _ _ _ _ _ { tmps := _, defers := _ } _
    try simp only [Act.put, List.setIfInBounds_toArray, List.set_cons_zero, List.set_cons_succ]
    refine held_load 16 _ rfl (by kernel_rfl) (by kernel_rfl) (by kernel_rfl) 24 (.tmp 3) rfl (W.heap.size) 0 (byteCells D1) _ (fun _ _ _ h => h) rfl (fun _ h => h.r1) Tryd.underlying24 rfl I1.out rfl hHeld ?_
    show wpAnyH _ _ _ _ _ _ _ { tmps := _, defers := _ } _
    try simp only [Act.put, List.setIfInBounds_toArray, List.set_cons_zero, List.set_cons_succ]
    refine held_load 17 _ rfl (by kernel_rfl) (by kernel_rfl) (by kernel_rfl) 24 (.tmp 4) rfl (W.heap.size + 1) 0 (byteCells D2) _ (fun _ _ _ h => h) rfl (fun _ h => h.r2) Tryd.underlying24 rfl I2.out rfl hHeld ?_
    show wpAnyH _ _ _ _ _ _ _ { tmps := _, defers := _ } _
    try simp only [Act.put, List.setIfInBounds_toArray, List.set_cons_zero, List.set_cons_succ]
    first | (refine held_take 18 _ rfl (by kernel_rfl) (by kernel_rfl) (by kernel_rfl) (v := ?_) (fun _ _ _ h => h) ?_ rfl hHeld ?_; rotate_left; focus (intro w hS; go_simp; try with_reducible rfl)) | (refine held_skip 18 _ rfl (by kernel_rfl) (by kernel_rfl) (by kernel_rfl) (fun _ _ _ h => h) rfl hHeld ?_)
    show wpAnyH _ _ _ _ _ _ _ { tmps := _, defers := _ } _
    try simp only [Act.put, List.setIfInBounds_toArray, List.set_cons_zero, List.set_cons_succ]
    first | (refine held_take 19 _ rfl (by kernel_rfl) (by kernel_rfl) (by kernel_rfl) (v := ?_) (fun _ _ _ h => h) ?_ rfl hHeld ?_; rotate_left; focus (intro w hS; go_simp; try with_reducible rfl)) | (refine held_skip 19 _ rfl (by kernel_rfl) (by kernel_rfl) (by kernel_rfl) (fun _ _ _ h => h) rfl hHeld ?_)
    show wpAnyH _ _ _ _ _ _ _ { tmps := _, defers := _ } _
    try simp only [Act.put, List.setIfInBounds_toArray, List.set_cons_zero, List.set_cons_succ]
    first | (refine held_take 20 _ rfl (by kernel_rfl) (by kernel_rfl) (by kernel_rfl) (v := ?_) (fun _ _ _ h => h) ?_ rfl hHeld ?_; rotate_left; focus (intro w hS; go_simp; try with_reducible rfl)) | (refine held_skip 20 _ rfl (by kernel_rfl) (by kernel_rfl) (by kernel_rfl) (fun _ _ _ h => h) rfl hHeld ?_)
    show wpAnyH _ _ _ _ _ _ _ { tmps := _, defers := _ } _
    try simp only [Act.put, List.setIfInBounds_toArray, List.set_cons_zero, List.set_cons_succ]
    first | (refine held_take 21 _ rfl (by kernel_rfl) (by kernel_rfl) (by kernel_rfl) (v := ?_) (fun _ _ _ h => h) ?_ rfl hHeld ?_; rotate_left; focus (intro w hS; go_simp; try with_reducible rfl)) | (refine held_skip 21 _ rfl (by kernel_rfl) (by kernel_rfl) (by kernel_rfl) (fun _ _ _ h => h) rfl hHeld ?_)
    show wpAnyH _ _ _ _ _ _ _ { tmps := _, defers := _ } _
    try simp only [Act.put, List.setIfInBounds_toArray, List.set_cons_zero, List.set_cons_succ]
    refine held_load 22 _ rfl (by kernel_rfl) (by kernel_rfl) (by kernel_rfl) 24 (.tmp 3) rfl (W.heap.size) 0 (byteCells D1) _ (fun _ _ _ h => h) rfl (fun _ h => h.r1) Tryd.underlying24 rfl I1.out rfl hHeld ?_
    show wpAnyH _ _ _ _ _ _ _ { tmps := _, defers := _ } _
    try simp only [Act.put, List.setIfInBounds_toArray, List.set_cons_zero, List.set_cons_succ]
    refine held_load 23 _ rfl (by kernel_rfl) (by kernel_rfl) (by kernel_rfl) 24 (.tmp 3) rfl (W.heap.size) 0 (byteCells D1) _ (fun _ _ _ h => h) rfl (fun _ h => h.r1) Tryd.underlying24 rfl I1.out rfl hHeld ?_
    show wpAnyH _ _ _ _ _ _ _ { tmps := _, defers := _ } _
    try simp only [Act.put, List.setIfInBounds_toArray, List.set_cons_zero, List.set_cons_succ]
    show wpAnyH _ _ _ _ _ _ _ { tmps := _, defers := _ } _
    try simp only [Act.put, List.setIfInBounds_toArray, List.set_cons_zero, List.set_cons_succ]
    refine held_next 24 _ (by kernel_rfl) rfl rfl fun K hK => ?_
    go_simp
    refine (H11.out _).mono ?_
    rintro e w1 ⟨rfl, hb1⟩
    show K _ _
    refine hK _ _ (hHeld.below hb1) (fun hHeld => ?_)
    clear hK K hb1
    first | (refine held_take 25 _ rfl (by kernel_rfl) (by kernel_rfl) (by kernel_rfl) (v := ?_) (fun _ _ _ h => h) ?_ rfl hHeld ?_; rotate_left; focus (intro w hS; go_simp; try with_reducible rfl)) | (refine held_skip 25 _ rfl (by kernel_rfl) (by kernel_rfl) (by kernel_rfl) (fun _ _ _ h => h) rfl hHeld ?_)
    show wpAnyH _ _ _ _ _ _ _ { tmps := _, defers := _ } _
    try simp only [Act.put, List.setIfInBounds_toArray, List.set_cons_zero, List.set_cons_succ]
    first | (refine held_take 26 _ rfl (by kernel_rfl) (by kernel_rfl) (by kernel_rfl) (v := ?_) (fun _ _ _ h => h) ?_ rfl hHeld ?_; rotate_left; focus (intro w hS; go_simp; try with_reducible rfl)) | (refine held_skip 26 _ rfl (by kernel_rfl) (by kernel_rfl) (by kernel_rfl) (fun _ _ _ h => h) rfl hHeld ?_)
    show wpAnyH _ _ _ _ _ _ _ { tmps := _, defers := _ } _
    try simp only [Act.put, List.setIfInBounds_toArray, List.set_cons_zero, List.set_cons_succ]
    show wpAnyH _ _ _ _ _ _ _ { tmps := _, defers := _ } _
    try simp only [Act.put, List.setIfInBounds_toArray, List.set_cons_zero, List.set_cons_succ]
    refine wpAnyH_done (by kernel_rfl) ?_ _
    have hOrd := Lib.hid hHeld
    clear hHeld
    by_cases h23 : 0 < z
    · have hd1 : decide (0 < z) = true := decide_eq_true h23
      go_wp2_with fail
      refine (HWorks.out _ (HT.out.below hOrd.out.g)).mono ?_
      rintro e w2 ⟨rfl, hb2⟩
      go_wp2_with fail
      go_ret
      exact ⟨rfl, (HG.out.trans (hOrd.out.g.mono HG.out.size)).trans (hb2.mono (Nat.le_trans HG.out.size hOrd.out.g.size))⟩
    · have hd1 : decide (0 < z) = false := decide_eq_false h23
      try have hd2 : decide (u ≤ 0) = true := decide_eq_true (HTr.out (by decide) (by omega))
      clear h23
      go_wp2_with fail
      refine (HWorks.out _ (HT.out.below hOrd.out.g)).mono ?_
      rintro e w2 ⟨rfl, hb2⟩
      go_wp2_with fail
      go_ret
      exact ⟨rfl, (HG.out.trans (hOrd.out.g.mono HG.out.size)).trans (hb2.mono (Nat.le_trans HG.out.size hOrd.out.g.size))⟩

theorem shaOrder_walk (D1 D2 D3 : List UInt8) (W : World) (hT : Tab W) (n1 : D1.length = 32) (n2 : D2.length = 32) (n3 : D3.length = 32) :
    Calls Tryd.prog 11 #[dig D1, dig D2, dig D3] W fun e w' => e = .returned (.bool true) ∧ Below W.heap.size W w' := by
  refine order_walk D1 D2 D3 W hT n1 n2 n3 _ _ _ rfl rfl rfl ?_
  have hs := cmp_swap D1 D2
  have hz := cmp_zero D1 D2
  rcases cmp_range D1 D2 with h | h | h
  · exact .inr (.inr ⟨h, by omega, decide_eq_false fun e => by have := hz.2 e; omega⟩)
  · exact .inl ⟨h, by omega, decide_eq_true (hz.1 h)⟩
  · exact .inr (.inl ⟨h, by omega, decide_eq_false fun e => by have := hz.2 e; omega⟩)
end Go.Proofs.YtphgaemmbdogmaaDoor
