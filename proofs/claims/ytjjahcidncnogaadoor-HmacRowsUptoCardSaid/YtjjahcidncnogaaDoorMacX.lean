/- Keys with one block; hmac.Extract. -/
import Derived.Test.YtjjahcidncnogaaDoorMacSum
namespace Go.Proofs.YtjjahcidncnogaaDoor
open Go.ChangeShapes Go.WideShapes Go.ChangeAt Go.RowKit Go.Lib

theorem macK_zeros (l : List UInt8) (j : Nat) (h : l.length + j ≤ 64) : macK (l ++ List.replicate j 0) = macK l := by
  have h1 : ¬ 64 < (l ++ List.replicate j (0 : UInt8)).length := by rw [List.length_append, List.length_replicate]; omega
  have h2 : ¬ 64 < l.length := by omega
  unfold macK keyOf
  rw [if_neg h1, if_neg h2, List.append_assoc]
  congr 1
  unfold zeroB
  rw [List.drop_replicate, List.drop_replicate, List.replicate_append_replicate, List.length_append, List.length_replicate]
  congr 1
  omega
theorem macK_sum (l : List UInt8) (h : 64 < l.length) : macK (shaL l) = macK l := by
  have hl : (shaL l).length = 32 := sumI_length _ _ _
  have e1 : keyOf (shaL l) = shaL l := by
    unfold keyOf
    rw [if_neg (by rw [hl]; decide)]
  have e2 : keyOf l = shaL l := by unfold keyOf; rw [if_pos h]
  unfold macK
  rw [e1, e2]
theorem hmacL_zeros (l m : List UInt8) (j : Nat) (h : l.length + j ≤ 64) : hmacL (l ++ List.replicate j 0) m = hmacL l m := by unfold hmacL; rw [macK_zeros l j h]
theorem hmacL_sum (l m : List UInt8) (h : 64 < l.length) : hmacL (shaL l) m = hmacL l m := by unfold hmacL; rw [macK_sum l h]

/-- hmac.Sum of one part, in a block of its own. -/
theorem hmacOne_any (a : Option Addr) (c : Nat) (l : List UInt8) (a2 : Option Addr) (c2 : Nat) (l2 : List UInt8) (v : World) (hT : Tab v) (hB : Bytes v.heap.size v.heap.size a l v) (hc : l.length ≤ c) (hm : l.length ≤ 140737488351232)
    (hB2 : Bytes v.heap.size v.heap.size a2 l2 v) (hc2 : l2.length ≤ c2) (hm2 : l2.length ≤ 140737488351232) :
    Calls Tryd.prog 32 #[.slice a l.length c, .slice (some ⟨v.heap.size, 0, none⟩) 1 1] (v.alloc (.cells #[.slice a2 l2.length c2] 28)) fun e w' => e = .returned (dig (hmacL l l2)) ∧ Below v.heap.size v w' := by
  have hg : Below v.heap.size v (v.alloc (.cells #[.slice a2 l2.length c2] 28)) := (Below.refl _ v).alloc (Nat.le_refl _) _
  have hs := hg.size
  refine (hmacSum_any a c l _ 1 1 (by decide) (fun _ => a2) (fun _ => c2) (fun _ => l2) _ (hT.below hg) ((hB.keep hg).at hs hs) hc hm (parts_one (by rw [cell_of_heap (heap_last _ _)]; rfl) (by simp) ((hB2.keep hg).at hs hs) hc2 hm2) (by rw [cat_one]; omega)).mono ?_
  rintro e w' ⟨rfl, hb⟩
  exact ⟨by rw [cat_one], hg.trans (hb.mono hs)⟩

set_option maxRecDepth 100000 in
set_option maxHeartbeats 4000000 in
theorem extract_any (a : Option Addr) (c : Nat) (l : List UInt8) (a2 : Option Addr) (c2 : Nat) (l2 : List UInt8) (w : World) (hT : Tab w) (hB : Bytes w.heap.size w.heap.size a l w) (hc : l.length ≤ c) (hm : l.length ≤ 140737488351232)
    (hB2 : Bytes w.heap.size w.heap.size a2 l2 w) (hc2 : l2.length ≤ c2) (hm2 : l2.length ≤ 140737488351232) :
    Calls Tryd.prog 36 #[.slice a l.length c, .slice a2 l2.length c2] w fun e w' => e = .returned (dig (hmacL l l2)) ∧ Below w.heap.size w w' := by
  obtain ⟨v1, hv1⟩ : ∃ v, v = w.alloc (.cells (Go.Lib.byteCells zero32).toArray 48) := ⟨_, rfl⟩
  have hG1 : Below w.heap.size w v1 := by rw [hv1]; exact (Below.refl _ w).alloc (Nat.le_refl _) _
  have hs1 := hG1.size
  have hz1 : v1.heap.size = w.heap.size + 1 := by rw [hv1]; simp
  have hOne := hmacOne_any a c l a2 c2 l2 v1 (hT.below hG1) ((hB.keep hG1).at hs1 hs1) hc hm ((hB2.keep hG1).at hs1 hs1) hc2 hm2
  have HG1 := Lib.hid hG1
  have HZ1 : Hid (v1.heap[w.heap.size]? = some (.cells (Go.Lib.byteCells zero32).toArray 48 (0, 0))) := Lib.hid (by rw [hv1]; exact heap_last _ _)
  obtain ⟨R, hR⟩ : ∃ R, hmacL l l2 = R := ⟨_, rfl⟩
  have HRl : Hid (R.length = 32) := Lib.hid (by rw [← hR]; exact sumI_length _ _ _)
  obtain ⟨n, hn⟩ : ∃ n, l.length = n := ⟨_, rfl⟩
  obtain ⟨n2, hn2⟩ : ∃ n, l2.length = n := ⟨_, rfl⟩
  rw [hz1, hR, hn, hn2] at hOne
  rw [hR, hn, hn2]
  unfold dig at hOne ⊢
  have HOne := Lib.hid hOne
  have HV1 := Lib.hid hv1.symm
  have HYi := Lib.hid (dig_size R HRl.out)
  have HYo := Lib.hid (dig_one R)
  have HYs : Hid ((Go.Lib.byteCells zero32).toArray.size = (Go.Lib.byteCells R).toArray.size) := Lib.hid (by rw [List.size_toArray, List.size_toArray, bc_len, bc_len, HRl.out]; rfl)
  have HS : Hid (w.heap.size + 1 = v1.heap.size) := Lib.hid hz1.symm
  clear hT hB hc hm hB2 hc2 hm2 hOne hR hn hn2 hv1 hG1 hs1 hz1
  go_enter Tryd.func36, Tryd.ntmps36
  go_wp2_with fail
  refine calls_at (congrArg (fun v => World.alloc v (.cells #[Value.slice a2 n2 c2] 28)) HV1.out) ?_
  refine HOne.out.mono ?_
  rintro e w4 ⟨rfl, hb4'⟩
  have hb4 : Below v1.heap.size v1 w4 := by rw [← HS.out]; exact hb4'
  have HZ4 : Hid (w4.heap[w.heap.size]? = some (.cells (Go.Lib.byteCells zero32).toArray 48 (0, 0))) := Lib.hid ((hb4.block _ (Array.getElem?_eq_some_iff.1 HZ1.out).1).trans HZ1.out)
  have HV5 := Lib.hid (setRow_heap w4 w.heap.size _ (Go.Lib.byteCells R).toArray _ _ HZ4.out)
  have HG5 : Hid (Below w.heap.size w (w4.setRow w.heap.size (Go.Lib.byteCells R).toArray)) := Lib.hid (by
    have hb : Below w.heap.size w w4 := HG1.out.trans (hb4.mono HG1.out.size)
    exact hb.trans (⟨rfl, rfl, rfl, by simp, fun j hj => setRow_other w4 _ j _ (by omega)⟩ : Below w.heap.size w4 (w4.setRow w.heap.size (Go.Lib.byteCells R).toArray)))
  clear hb4 hb4'
  go_wp2_with (refine wpList_store_row rfl 48 (.tmp 4) (.tmp 8) rfl w.heap.size (Go.Lib.byteCells R).toArray rfl rfl 48 _ HZ4.out HYi.out HYs.out HYo.out ?_)
  exact bodyPost_ret (results_cell_row rfl _ _ w.heap.size 48 _ (0, 0) _ rfl HV5.out Tryd.underlying48 rfl HYi.out) rfl ⟨rfl, HG5.out⟩
end Go.Proofs.YtjjahcidncnogaaDoor
