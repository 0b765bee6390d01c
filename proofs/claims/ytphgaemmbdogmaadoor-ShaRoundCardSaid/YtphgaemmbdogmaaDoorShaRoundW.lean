/- ShaRound, walked. -/
import Derived.Test.YtphgaemmbdogmaaDoorRefR
import Derived.Test.YtphgaemmbdogmaaDoorStates
import Derived.Test.YtphgaemmbdogmaaDoorShaOrderW
namespace Go.Proofs.YtphgaemmbdogmaaDoor
open Go.ChangeShapes Go.WideShapes Go.ChangeAt Go.RowKit Go.Lib

/-- A state and a block in blocks of their own. -/
structure Two (b : Nat) (S B : List Int) (v w : World) : Prop where
  r1 : w.rangeAt b 0 (S.map (Value.int .u32))
  r2 : w.rangeAt (b + 1) 0 (B.map (Value.int .u8))
  lt : b + 1 < w.heap.size
  g : Below v.heap.size v w
theorem Two.below {b : Nat} {S B : List Int} {v w w' : World} (h : Two b S B v w) (hb : Below w.heap.size w w') : Two b S B v w' :=
  ⟨range_below h.r1 hb (by have := h.lt; omega), range_below h.r2 hb h.lt, Nat.lt_of_lt_of_le h.lt hb.size, h.g.trans (hb.mono h.g.size)⟩
theorem Two.drew {b : Nat} {S B : List Int} {v w : World} (h : Two b S B v w) : Two b S B v w.drew := ⟨h.r1, h.r2, h.lt, below_drawn 1 h.g⟩

set_option maxRecDepth 100000 in
set_option maxHeartbeats 16000000 in
theorem shaRound_walk (S : List Int) (B : List Int) (W : World) (hT : Tab W) (hS : S.length = 8) (hSr : ∀ x ∈ S, 0 ≤ x ∧ x < 4294967296) (hB : B.length = 64) (h8 : ∀ x ∈ B, 0 ≤ x ∧ x < 256) :
    Calls Tryd.prog 6 #[.agg (cells32 S), .agg (cells8 B)] W fun e w' => e = .returned (.bool true) ∧ Below W.heap.size W w' := by
  have HWorks := Lib.hid (fun w (h : Tab w) => works_any w h)
  have HA := Lib.hid (fun w (h : Tab w) => round_any S B hS hB h8 w h)
  have HB : Hid (∀ w, Tab w → Calls Tryd.prog 40 #[.agg (cells32 S), .agg (cells8 B)] w fun e w' => e = .returned (.agg (cells32 (roundI S B))) ∧ Below w.heap.size w w') := Lib.hid (fun w _ => refRound_any S B hS hB h8 w)
  have HSame := Lib.hid (fun w => state_same (roundI S B) (by rw [roundI_length]; exact hS) w)
  obtain ⟨X, hX⟩ : ∃ X, cells32 (roundI S B) = X := ⟨_, rfl⟩
  rw [hX] at HA HB HSame
  have HIS : Hid ((Tryd.prog.info? 26).map (·.size) = some (S.map (Value.int .u32)).length) := Lib.hid (by rw [List.length_map, hS]; exact sizeState)
  have HIB : Hid ((Tryd.prog.info? 67).map (·.size) = some (B.map (Value.int .u8)).length) := Lib.hid (by rw [List.length_map, hB]; exact sizeBlock)
  clear hX hS hSr hB h8
  unfold cells32 cells8 at HA HB ⊢
  obtain ⟨v, hv⟩ : ∃ v, v = (W.alloc (.cells (S.map (Value.int .u32)).toArray 26)).alloc (.cells (B.map (Value.int .u8)).toArray 67) := ⟨_, rfl⟩
  have HG : Hid (Below W.heap.size W v) := Lib.hid (by rw [hv]; exact ((Below.refl _ W).alloc (Nat.le_refl _) _).alloc (by simp) _)
  have HTwo : Hid (Two W.heap.size S B v v) := Lib.hid (by
    refine ⟨?_, ?_, by rw [hv]; simp, Below.refl _ _⟩
    · have h : v.heap[W.heap.size]? = some (.cells (S.map (Value.int .u32)).toArray 26 (0, 0)) := by
        rw [hv, (MapKept.heap_alloc _ _).2 _ (by simp), (MapKept.heap_alloc _ _).1]
      intro j x hx
      rw [cell_of_heap h, Nat.zero_add, List.getElem?_toArray, hx]
    · have h : v.heap[W.heap.size + 1]? = some (.cells (B.map (Value.int .u8)).toArray 67 (0, 0)) := by
        rw [hv]
        have h := (MapKept.heap_alloc (W.alloc (.cells (S.map (Value.int .u32)).toArray 26)) (.cells (B.map (Value.int .u8)).toArray 67)).1
        simp only [World.size_alloc] at h
        exact h
      intro j x hx
      rw [cell_of_heap h, Nat.zero_add, List.getElem?_toArray, hx])
  have HT : Hid (Tab v) := Lib.hid (hT.below HG.out)
  have HW : Hid (v.heap.size ≤ v.heap.size) := Lib.hid (Nat.le_refl _)
  clear hT
  go_enter Tryd.func6, Tryd.ntmps6
  go_wp2_with fail
  rw [← hv]
  clear hv
  refine wp_region_held_drew (S := Two W.heap.size S B v) (by kernel_rfl) HTwo.out.drew (fun hHeld => ?_)
  refine held_load 0 _ rfl (by kernel_rfl) (by kernel_rfl) (by kernel_rfl) 26 (.tmp 2) rfl W.heap.size 0 (S.map (Value.int .u32)) _ (fun _ _ _ h => h) rfl (fun _ h => h.r1) Tryd.underlying26 rfl HIS.out rfl hHeld ?_
  show wpAnyH _ _ _ _ _ _ _ { tmps := _, defers := _ } _
  try simp only [Act.put, List.setIfInBounds_toArray, List.set_cons_zero, List.set_cons_succ]
  refine held_load 1 _ rfl (by kernel_rfl) (by kernel_rfl) (by kernel_rfl) 67 (.tmp 3) rfl (W.heap.size + 1) 0 (B.map (Value.int .u8)) _ (fun _ _ _ h => h) rfl (fun _ h => h.r2) Tryd.underlying67 rfl HIB.out rfl hHeld ?_
  show wpAnyH _ _ _ _ _ _ _ { tmps := _, defers := _ } _
  try simp only [Act.put, List.setIfInBounds_toArray, List.set_cons_zero, List.set_cons_succ]
  refine held_load 3 _ rfl (by kernel_rfl) (by kernel_rfl) (by kernel_rfl) 26 (.tmp 2) rfl W.heap.size 0 (S.map (Value.int .u32)) _ (fun _ _ _ h => h) rfl (fun _ h => h.r1) Tryd.underlying26 rfl HIS.out rfl hHeld ?_
  show wpAnyH _ _ _ _ _ _ _ { tmps := _, defers := _ } _
  try simp only [Act.put, List.setIfInBounds_toArray, List.set_cons_zero, List.set_cons_succ]
  refine held_load 4 _ rfl (by kernel_rfl) (by kernel_rfl) (by kernel_rfl) 67 (.tmp 3) rfl (W.heap.size + 1) 0 (B.map (Value.int .u8)) _ (fun _ _ _ h => h) rfl (fun _ h => h.r2) Tryd.underlying67 rfl HIB.out rfl hHeld ?_
  show wpAnyH _ _ _ _ _ _ _ { tmps := _, defers := _ } _
  try simp only [Act.put, List.setIfInBounds_toArray, List.set_cons_zero, List.set_cons_succ]
  refine held_next 2 _ (by kernel_rfl) rfl rfl fun K hK => ?_
  go_simp
  refine (HA.out _ (HT.out.below (hHeld.g.mono HW.out))).mono ?_
  rintro e w2 ⟨rfl, hb⟩
  show K _ _
  refine hK _ _ (hHeld.below hb) (fun hHeld => ?_)
  clear hK K hb
  show wpAnyH _ _ _ _ _ _ _ { tmps := _, defers := _ } _
  try simp only [Act.put, List.setIfInBounds_toArray, List.set_cons_zero, List.set_cons_succ]
  refine held_next 5 _ (by kernel_rfl) rfl rfl fun K hK => ?_
  go_simp
  refine (HB.out _ (HT.out.below (hHeld.g.mono HW.out))).mono ?_
  rintro e w2 ⟨rfl, hb⟩
  show K _ _
  refine hK _ _ (hHeld.below hb) (fun hHeld => ?_)
  clear hK K hb
  show wpAnyH _ _ _ _ _ _ _ { tmps := _, defers := _ } _
  try simp only [Act.put, List.setIfInBounds_toArray, List.set_cons_zero, List.set_cons_succ]
  first | (refine held_take 6 _ rfl (by kernel_rfl) (by kernel_rfl) (by kernel_rfl) (v := ?_) (fun _ _ _ h => h) ?_ rfl hHeld ?_; rotate_left; focus (intro w hS; have h := HSame.out w; go_simp; try with_reducible rfl)) | (refine held_skip 6 _ rfl (by kernel_rfl) (by kernel_rfl) (by kernel_rfl) (fun _ _ _ h => h) rfl hHeld ?_)
  show wpAnyH _ _ _ _ _ _ _ { tmps := _, defers := _ } _
  try simp only [Act.put, List.setIfInBounds_toArray, List.set_cons_zero, List.set_cons_succ]
  first | (refine held_take 7 _ rfl (by kernel_rfl) (by kernel_rfl) (by kernel_rfl) (v := ?_) (fun _ _ _ h => h) ?_ rfl hHeld ?_; rotate_left; focus (intro w hS; skip; go_simp; try with_reducible rfl)) | (refine held_skip 7 _ rfl (by kernel_rfl) (by kernel_rfl) (by kernel_rfl) (fun _ _ _ h => h) rfl hHeld ?_)
  show wpAnyH _ _ _ _ _ _ _ { tmps := _, defers := _ } _
  try simp only [Act.put, List.setIfInBounds_toArray, List.set_cons_zero, List.set_cons_succ]
  refine held_next 8 _ (by kernel_rfl) rfl rfl fun K hK => ?_
  go_simp
  refine (HWorks.out _ (HT.out.below (hHeld.g.mono HW.out))).mono ?_
  rintro e w2 ⟨rfl, hb⟩
  show K _ _
  refine hK _ _ (hHeld.below hb) (fun hHeld => ?_)
  clear hK K hb
  show wpAnyH _ _ _ _ _ _ _ { tmps := _, defers := _ } _
  try simp only [Act.put, List.setIfInBounds_toArray, List.set_cons_zero, List.set_cons_succ]
  first | (refine held_take 9 _ rfl (by kernel_rfl) (by kernel_rfl) (by kernel_rfl) (v := ?_) (fun _ _ _ h => h) ?_ rfl hHeld ?_; rotate_left; focus (intro w hS; skip; go_simp; try with_reducible rfl)) | (refine held_skip 9 _ rfl (by kernel_rfl) (by kernel_rfl) (by kernel_rfl) (fun _ _ _ h => h) rfl hHeld ?_)
  show wpAnyH _ _ _ _ _ _ _ { tmps := _, defers := _ } _
  try simp only [Act.put, List.setIfInBounds_toArray, List.set_cons_zero, List.set_cons_succ]
  first | (refine held_take 10 _ rfl (by kernel_rfl) (by kernel_rfl) (by kernel_rfl) (v := ?_) (fun _ _ _ h => h) ?_ rfl hHeld ?_; rotate_left; focus (intro w hS; skip; go_simp; try with_reducible rfl)) | (refine held_skip 10 _ rfl (by kernel_rfl) (by kernel_rfl) (by kernel_rfl) (fun _ _ _ h => h) rfl hHeld ?_)
  show wpAnyH _ _ _ _ _ _ _ { tmps := _, defers := _ } _
  try simp only [Act.put, List.setIfInBounds_toArray, List.set_cons_zero, List.set_cons_succ]
  refine wpAnyH_done (by kernel_rfl) ?_ _
  go_wp2_with fail
  go_ret
  exact ⟨rfl, HG.out.trans (hHeld.g.mono HG.out.size)⟩
end Go.Proofs.YtphgaemmbdogmaaDoor
