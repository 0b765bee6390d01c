/- (*Mac).Sum, hmac.Sum: contracts. -/
import Derived.Test.YtjjahcidncnogaaDoorMacNew
namespace Go.Proofs.YtjjahcidncnogaaDoor
open Go.ChangeShapes Go.WideShapes Go.ChangeAt Go.RowKit Go.Lib

set_option maxRecDepth 100000 in
set_option maxHeartbeats 8000000 in
theorem macSum_any (M B : Nat) (k i : List UInt8) (w : World) (hT : Tab w) (hM : MB w M B k) (hTk : Took B firstI 0 i w) :
    Calls Tryd.prog 43 #[.pointer (some ⟨M, 0, none⟩)] w fun e w' => e = .returned (dig (shaL (mask 92 k ++ shaL i))) ∧ Below w.heap.size w w' := by
  have HT := Lib.hid hT
  have HKl := Lib.hid hM.len
  obtain ⟨D, hD⟩ : ∃ D, shaL i = D := ⟨_, rfl⟩
  have HDl : Hid (D.length = 32) := Lib.hid (by rw [← hD]; exact sumI_length _ _ _)
  rw [hD]
  obtain ⟨R, hR⟩ : ∃ R, shaL (mask 92 k ++ D) = R := ⟨_, rfl⟩
  have HR := Lib.hid hR
  have HRl : Hid (R.length = 32) := Lib.hid (by rw [← hR]; exact sumI_length _ _ _)
  rw [hR]
  clear hR
  obtain ⟨v1, hv1⟩ : ∃ v, v = w.alloc (.cells (Go.Lib.byteCells zero32).toArray 48) := ⟨_, rfl⟩
  have HV1 := Lib.hid hv1.symm
  have HG1 : Hid (Below w.heap.size w v1) := Lib.hid (by rw [hv1]; exact (Below.refl _ w).alloc (Nat.le_refl _) _)
  have HZ1 : Hid (v1.heap[w.heap.size]? = some (.cells (Go.Lib.byteCells zero32).toArray 48 (0, 0))) := Lib.hid (by rw [hv1]; exact heap_last _ _)
  have HM1 : Hid (MB v1 M B k) := Lib.hid (hM.keep HG1.out hM.lt)
  have HTk1 : Hid (Took B firstI 0 i v1) := Lib.hid (hTk.keep HG1.out hTk.lt)
  have HSumB := Lib.hid (sum_any B firstI 0 i v1 (hT.below HG1.out) HTk1.out)
  rw [show sumI firstI 0 i = D from hD] at HSumB
  unfold dig at HSumB ⊢
  have HYi := Lib.hid (dig_size D HDl.out)
  have HYo := Lib.hid (dig_one D)
  have HYs : Hid ((Go.Lib.byteCells zero32).toArray.size = (Go.Lib.byteCells D).toArray.size) := Lib.hid (by rw [List.size_toArray, List.size_toArray, bc_len, bc_len, HDl.out]; rfl)
  have c0 := HM1.out.hash
  clear hT hM hTk hD hv1
  go_enter Tryd.func43, Tryd.ntmps43
  go_wp2_with (refine wpList_world HV1.out ?_)
  refine HSumB.out.mono ?_
  rintro e w2 ⟨rfl, hb2⟩
  clear c0
  have HG2 : Hid (Below w.heap.size w w2) := Lib.hid (HG1.out.trans (hb2.mono HG1.out.size))
  have HM2 : Hid (MB w2 M B k) := Lib.hid (HM1.out.keep hb2 HM1.out.lt)
  have HZ2 : Hid (w2.heap[w.heap.size]? = some (.cells (Go.Lib.byteCells zero32).toArray 48 (0, 0))) := Lib.hid ((hb2.block _ (Array.getElem?_eq_some_iff.1 HZ1.out).1).trans HZ1.out)
  obtain ⟨v3, hv3⟩ : ∃ v, v = w2.alloc (.cells (Go.Lib.byteCells D).toArray 48) := ⟨_, rfl⟩
  have HV3 := Lib.hid ((World.setRow_alloc_new w2 (Go.Lib.byteCells zero32).toArray (Go.Lib.byteCells D).toArray 48).trans hv3.symm)
  obtain ⟨b3, hb3⟩ : ∃ b, w2.heap.size = b := ⟨_, rfl⟩
  have HB3 := Lib.hid hb3
  have HA3 : Hid (Below w2.heap.size w2 v3) := Lib.hid (by rw [hv3]; exact (Below.refl _ _).alloc (Nat.le_refl _) _)
  have HR3 : Hid (v3.heap[b3]? = some (.cells (Go.Lib.byteCells D).toArray 48 (0, 0))) := Lib.hid (by rw [hv3, ← hb3]; exact heap_last _ _)
  have HG3 : Hid (Below w.heap.size w v3) := Lib.hid (HG2.out.trans (HA3.out.mono HG2.out.size))
  have HM3 : Hid (MB v3 M B k) := Lib.hid (HM2.out.keep HA3.out HM2.out.lt)
  have HZ3 : Hid (v3.heap[w.heap.size]? = some (.cells (Go.Lib.byteCells zero32).toArray 48 (0, 0))) := Lib.hid ((HA3.out.block _ (Array.getElem?_eq_some_iff.1 HZ2.out).1).trans HZ2.out)
  clear hv3 hb3 hb2
  go_wp2_with (refine wpList_store_row rfl 48 (.tmp 3) (.tmp 12) rfl w2.heap.size (Go.Lib.byteCells D).toArray rfl rfl 48 (Go.Lib.byteCells zero32).toArray (heap_last _ _) HYi.out HYs.out HYo.out ?_; refine wpList_world HV3.out ?_; rw [HB3.out])
  refine wp_region_held_drew (S := fun _ => True) (by kernel_rfl) trivial (fun hHeld => ?_)
  first | (refine held_take 0 _ rfl (by kernel_rfl) (by kernel_rfl) (by kernel_rfl) (v := ?_) (fun _ _ _ h => h) ?_ rfl hHeld ?_; rotate_left; focus (intro w hS; skip; go_simp; try with_reducible rfl)) | (refine held_skip 0 _ rfl (by kernel_rfl) (by kernel_rfl) (by kernel_rfl) (fun _ _ _ h => h) rfl hHeld ?_)
  show wpAnyH _ _ _ _ _ _ _ { tmps := _, defers := _ } _
  try dsimp only
  try simp only [List.setIfInBounds_toArray]
  try simp only [List.set_cons_succ]
  try simp only [List.set_cons_zero]
  first | (refine held_take 2 _ rfl (by kernel_rfl) (by kernel_rfl) (by kernel_rfl) (v := ?_) (fun _ _ _ h => h) ?_ rfl hHeld ?_; rotate_left; focus (intro w hS; skip; go_simp; try with_reducible rfl)) | (refine held_skip 2 _ rfl (by kernel_rfl) (by kernel_rfl) (by kernel_rfl) (fun _ _ _ h => h) rfl hHeld ?_)
  show wpAnyH _ _ _ _ _ _ _ { tmps := _, defers := _ } _
  try dsimp only
  try simp only [List.setIfInBounds_toArray]
  try simp only [List.set_cons_succ]
  try simp only [List.set_cons_zero]
  refine held_next 1 _ (by kernel_rfl) rfl rfl fun K hK => ?_
  go_simp
  refine (masked_any M B k 92 _ HM3.out.drew).mono ?_
  rintro e w5 ⟨g, rfl, hgl, hgh, hb5'⟩
  have hb5 : Below v3.heap.size v3 w5 := (below_drawn 1 (Below.refl v3.heap.size v3)).trans (show Below v3.heap.size v3.drew w5 from hb5')
  show K _ _
  refine hK _ _ trivial (fun hHeld => ?_)
  clear hK K
  show wpAnyH _ _ _ _ _ _ _ { tmps := _, defers := _ } _
  try dsimp only
  try simp only [List.setIfInBounds_toArray]
  try simp only [List.set_cons_succ]
  try simp only [List.set_cons_zero]
  refine held_next 3 _ (by kernel_rfl) rfl rfl fun K hK => ?_
  go_simp
  refine hK _ _ trivial (fun hHeld => ?_)
  clear hK K
  show wpAnyH _ _ _ _ _ _ _ { tmps := _, defers := _ } _
  try dsimp only
  try simp only [List.setIfInBounds_toArray]
  try simp only [List.set_cons_succ]
  try simp only [List.set_cons_zero]
  refine held_next 4 _ (by kernel_rfl) rfl rfl fun K hK => ?_
  go_simp
  have hg5 : g < w5.heap.size := (Array.getElem?_eq_some_iff.1 hgh).1
  have hs5 := hb5.size
  have hb6 : Below v3.heap.size v3 (w5.alloc (.cells #[.slice (some ⟨g, 0, none⟩) 64 64, .slice (some ⟨b3, 0, none⟩) 32 32] 28)) := hb5.alloc hb5.size _
  have hR6 : (w5.alloc (.cells #[.slice (some ⟨g, 0, none⟩) 64 64, .slice (some ⟨b3, 0, none⟩) 32 32] 28)).heap[b3]? = some (.cells (Go.Lib.byteCells D).toArray 48 (0, 0)) := (hb6.block b3 (Array.getElem?_eq_some_iff.1 HR3.out).1).trans HR3.out
  have hb3l := (Array.getElem?_eq_some_iff.1 hR6).1
  have hmk : (mask 92 k).length = 64 := by rw [mask_length, HKl.out]
  have hSum := sums_any (some ⟨w5.heap.size, 0, none⟩) 2 2 (by decide) (pairF (some ⟨g, 0, none⟩) (some ⟨b3, 0, none⟩)) (pairF 64 32) (pairF (mask 92 k) D) _ (HT.out.below (HG3.out.trans (hb6.mono HG3.out.size)))
    (parts_two (by rw [cell_of_heap (heap_last _ _), hmk]; rfl) (by rw [cell_of_heap (heap_last _ _), HDl.out]; rfl) (by simp) (row_bytes (((MapKept.heap_alloc _ _).2 _ hg5).trans hgh) (by simp; omega) (by simp; omega)) (row_bytes hR6 hb3l (by omega)) (by rw [hmk]; decide) (by rw [HDl.out]; decide) (by rw [hmk]; decide) (by rw [HDl.out]; decide))
  rw [cat_two, HR.out] at hSum
  unfold dig at hSum
  refine hSum.mono ?_
  rintro e w7 ⟨rfl, hb7⟩
  have hb7' : Below v3.heap.size v3 w7 := hb6.trans (hb7.mono hb6.size)
  show K _ _
  refine hK _ _ trivial (fun hHeld => ?_)
  clear hK K
  show wpAnyH _ _ _ _ _ _ _ { tmps := _, defers := _ } _
  try dsimp only
  try simp only [List.setIfInBounds_toArray]
  try simp only [List.set_cons_succ]
  try simp only [List.set_cons_zero]
  refine held_next 5 _ (by kernel_rfl) rfl rfl fun K hK => ?_
  have HR7 : w7.heap[w.heap.size]? = some (.cells (Go.Lib.byteCells zero32).toArray 48 (0, 0)) := (hb7'.block _ (Array.getElem?_eq_some_iff.1 HZ3.out).1).trans HZ3.out
  have hV8 := setRow_heap w7 w.heap.size _ (Go.Lib.byteCells R).toArray _ _ HR7
  have hG8 : Below w.heap.size w (w7.setRow w.heap.size (Go.Lib.byteCells R).toArray) := (HG3.out.trans (hb7'.mono HG3.out.size)).trans ⟨rfl, rfl, rfl, by simp, fun j hj => setRow_other w7 _ j _ (by omega)⟩
  refine wp_store_row 48 (.tmp 2) (.tmp 17) rfl w.heap.size (Go.Lib.byteCells R).toArray rfl rfl 48 _ HR7 (dig_size R HRl.out) (by rw [List.size_toArray, List.size_toArray, bc_len, bc_len, HRl.out]; rfl) (dig_one R) ?_
  refine hK _ _ trivial (fun hHeld => ?_)
  clear hK K
  show wpAnyH _ _ _ _ _ _ _ { tmps := _, defers := _ } _
  try dsimp only
  try simp only [List.setIfInBounds_toArray]
  try simp only [List.set_cons_succ]
  try simp only [List.set_cons_zero]
  refine wpAnyH_done (by kernel_rfl) ?_ _
  go_wp2_with fail
  exact bodyPost_ret (results_cell_row rfl _ _ w.heap.size 48 _ (0, 0) _ rfl hV8 Tryd.underlying48 rfl (dig_size R HRl.out)) rfl ⟨rfl, hG8⟩

/-- The keyed digest. -/
def hmacL (key m : List UInt8) : List UInt8 := shaL (mask 92 (macK key) ++ shaL (mask 54 (macK key) ++ m))
set_option maxRecDepth 100000 in
set_option maxHeartbeats 8000000 in
theorem hmacSum_any (a : Option Addr) (c : Nat) (l : List UInt8) (p : Option Addr) (N cap : Nat) (hN : N ≤ 140737488351232) (P : Nat → Option Addr) (C : Nat → Nat) (L : Nat → List UInt8) (w : World) (hT : Tab w) (hB : Bytes w.heap.size w.heap.size a l w) (hc : l.length ≤ c) (hm : l.length ≤ 140737488351232)
    (hP : Parts w.heap.size p N P C L w) (hfit : (cat L N).length ≤ 562949953421312) :
    Calls Tryd.prog 32 #[.slice a l.length c, .slice p N cap] w fun e w' => e = .returned (dig (hmacL l (cat L N))) ∧ Below w.heap.size w w' := by
  have HT := Lib.hid hT
  obtain ⟨v1, hv1⟩ : ∃ v, v = w.alloc (.cells (Go.Lib.byteCells zero32).toArray 48) := ⟨_, rfl⟩
  have HV1 := Lib.hid hv1.symm
  have HG1 : Hid (Below w.heap.size w v1) := Lib.hid (by rw [hv1]; exact (Below.refl _ w).alloc (Nat.le_refl _) _)
  have HZ1 : Hid (v1.heap[w.heap.size]? = some (.cells (Go.Lib.byteCells zero32).toArray 48 (0, 0))) := Lib.hid (by rw [hv1]; exact heap_last _ _)
  have HNew := Lib.hid (macNew_any a c l v1 (hT.below HG1.out) ((hB.keep HG1.out).at HG1.out.size HG1.out.size) hc hm)
  have HP := Lib.hid hP
  have HFit := Lib.hid hfit
  obtain ⟨n, hn⟩ : ∃ n, l.length = n := ⟨_, rfl⟩
  obtain ⟨KK, hK⟩ : ∃ k, macK l = k := ⟨_, rfl⟩
  have HRes : Hid (hmacL l (cat L N) = shaL (mask 92 KK ++ shaL (mask 54 KK ++ cat L N))) := Lib.hid (by unfold hmacL; rw [hK])
  rw [hn, hK] at HNew
  rw [hn, HRes.out]
  obtain ⟨R, hR⟩ : ∃ R, shaL (mask 92 KK ++ shaL (mask 54 KK ++ cat L N)) = R := ⟨_, rfl⟩
  have HR := Lib.hid hR
  have HRl : Hid (R.length = 32) := Lib.hid (by rw [← hR]; exact sumI_length _ _ _)
  rw [hR]
  unfold dig
  have HYi := Lib.hid (dig_size R HRl.out)
  have HYo := Lib.hid (dig_one R)
  have HYs : Hid ((Go.Lib.byteCells zero32).toArray.size = (Go.Lib.byteCells R).toArray.size) := Lib.hid (by rw [List.size_toArray, List.size_toArray, bc_len, bc_len, HRl.out]; rfl)
  have HNN := Lib.hid hN
  clear hT hB hc hm hP hfit hn hK hR hv1 hN
  go_enter Tryd.func32, Tryd.ntmps32
  go_wp2_with fail
  refine calls_at HV1.out ?_
  refine HNew.out.mono ?_
  rintro e w2 ⟨M, B, rfl, hBl, hBM, hMB, hTk, hb2⟩
  have HMB := Lib.hid hMB
  have HTk := Lib.hid hTk
  have HG2 : Hid (Below w.heap.size w w2) := Lib.hid (HG1.out.trans (hb2.mono HG1.out.size))
  have HZ2 : Hid (w2.heap[w.heap.size]? = some (.cells (Go.Lib.byteCells zero32).toArray 48 (0, 0))) := Lib.hid ((hb2.block _ (Array.getElem?_eq_some_iff.1 HZ1.out).1).trans HZ1.out)
  have hv1l := (Array.getElem?_eq_some_iff.1 HZ1.out).1
  have HBM : Hid (w.heap.size < B ∧ B < M) := Lib.hid ⟨by omega, hBM⟩
  have HRg : Hid (w2.rangeAt M 0 [Value.pointer (some ⟨B, 0, none⟩)]) := Lib.hid (by
    intro j v hv
    rw [cell_of_heap hMB.heap, Nat.zero_add]
    match j, hv with
    | 0, hv => exact hv)
  have HIn : Hid ((Tryd.prog.info? 126).map (·.size) = some [Value.pointer (some ⟨B, 0, none⟩)].length) := Lib.hid (by kernel_rfl)
  have HPK : Hid (PartsK w2.heap.size B p N P C L w2) := Lib.hid (by
    have h := HP.out.keep HG2.out
    have hs := HG2.out.size
    have ho := HBM.out
    refine ⟨fun hN => ?_, fun i hi => ?_⟩
    · obtain ⟨pb, off, hp, h2, h3⟩ := h.1 hN
      exact ⟨pb, off, hp, by omega, by omega, h3⟩
    · obtain ⟨h2, h3, h4⟩ := h.2 i hi
      refine ⟨fun hne => ?_, h3, h4⟩
      obtain ⟨pb, off, hp, h5, h6, h7⟩ := h2 hne
      exact ⟨pb, off, hp, by omega, by omega, h7⟩)
  have HTake := Lib.hid (inTake_any B (mask 54 KK) p N cap HNN.out P C L w2 (HT.out.below HG2.out) HTk.out HPK.out (by rw [mask_length, HMB.out.len]; have := HFit.out; omega))
  clear hBl hBM hMB hTk hb2 hv1l
  go_wp2_with (refine wpList_load_mid rfl 126 (.tmp 10) rfl M 0 rfl [Value.pointer (some ⟨B, 0, none⟩)] _ HRg.out Tryd.underlying126 rfl HIn.out ?_)
  refine HTake.out.mono ?_
  rintro e w3 ⟨rfl, hTk3, hb3⟩
  have HG3 : Hid (Below w.heap.size w w3) := Lib.hid (HG2.out.trans (hb3.below (by have := HBM.out; omega) HG2.out.size))
  have HM3 : Hid (MB w3 M B KK) := Lib.hid ⟨(hb3.block M HMB.out.lt (by have := HBM.out; omega)).trans HMB.out.heap, HMB.out.len⟩
  have HZ3 : Hid (w3.heap[w.heap.size]? = some (.cells (Go.Lib.byteCells zero32).toArray 48 (0, 0))) := Lib.hid ((hb3.block _ (Array.getElem?_eq_some_iff.1 HZ2.out).1 (by have := HBM.out; omega)).trans HZ2.out)
  have HSumM := Lib.hid (macSum_any M B KK _ w3 (HT.out.below HG3.out) HM3.out hTk3)
  rw [HR.out] at HSumM
  unfold dig at HSumM
  clear hTk3 hb3
  go_wp2_with fail
  refine HSumM.out.mono ?_
  rintro e w4 ⟨rfl, hb4⟩
  have HZ4 : Hid (w4.heap[w.heap.size]? = some (.cells (Go.Lib.byteCells zero32).toArray 48 (0, 0))) := Lib.hid ((hb4.block _ (Array.getElem?_eq_some_iff.1 HZ3.out).1).trans HZ3.out)
  have HV5 := Lib.hid (setRow_heap w4 w.heap.size _ (Go.Lib.byteCells R).toArray _ _ HZ4.out)
  have HG5 : Hid (Below w.heap.size w (w4.setRow w.heap.size (Go.Lib.byteCells R).toArray)) := Lib.hid (by
    have hb : Below w.heap.size w w4 := HG3.out.trans (hb4.mono HG3.out.size)
    exact hb.trans (⟨rfl, rfl, rfl, by simp, fun j hj => setRow_other w4 _ j _ (by omega)⟩ : Below w.heap.size w4 (w4.setRow w.heap.size (Go.Lib.byteCells R).toArray)))
  clear hb4
  go_wp2_with (refine wpList_store_row rfl 48 (.tmp 4) (.tmp 15) rfl w.heap.size (Go.Lib.byteCells R).toArray rfl rfl 48 _ HZ4.out HYi.out HYs.out HYo.out ?_)
  exact bodyPost_ret (results_cell_row rfl _ _ w.heap.size 48 _ (0, 0) _ rfl HV5.out Tryd.underlying48 rfl HYi.out) rfl ⟨rfl, HG5.out⟩
end Go.Proofs.YtjjahcidncnogaaDoor
