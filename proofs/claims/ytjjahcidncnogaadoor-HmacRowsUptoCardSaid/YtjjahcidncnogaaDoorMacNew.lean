/- hmac.New: its contract. -/
import Derived.Test.YtjjahcidncnogaaDoorMac
import Derived.Test.YtjjahcidncnogaaDoorShaTakenL
namespace Go.Proofs.YtjjahcidncnogaaDoor
open Go.ChangeShapes Go.WideShapes Go.ChangeAt Go.RowKit Go.Lib

/-- What stands in the block of a key. -/
def keyOf (l : List UInt8) : List UInt8 := if 64 < l.length then shaL l else l
def macK (l : List UInt8) : List UInt8 := keyOf l ++ zeroB.drop (keyOf l).length
theorem mask_length (x : UInt8) (k : List UInt8) : (mask x k).length = k.length := by unfold mask; rw [List.length_map]
theorem row_bytes {w : World} {g b K : Nat} {L : List UInt8} {t : TypeId} (h : w.heap[g]? = some (.cells (Go.Lib.byteCells L).toArray t (0, 0))) (hb : g < b) (hK : g ≠ K) : Bytes b K (some ⟨g, 0, none⟩) L w := fun _ =>
  ⟨g, 0, rfl, hb, hK, fun j hj => by rw [cell_of_heap h, List.getElem?_toArray, Nat.zero_add]; simp [Go.Lib.byteCells, List.getElem?_eq_getElem hj]⟩
theorem MB.drew {w : World} {M B : Nat} {k : List UInt8} (h : MB w M B k) : MB w.drew M B k := ⟨h.heap, h.len⟩
theorem slice_all64o (g o : Nat) (w : World) : (Instr.sliceAt 112 (.pointer (some ⟨g, o, none⟩)) none none none).run Tryd.prog w = .ok (.slice (some ⟨g, o, none⟩) 64 64) w := by
  rw [run_sliceAt_array_all w 112 ⟨g, o, none⟩ arrBlockD, elemBlock w, lenBlock]
  simp only [Result.andThen, slicedAt, Nat.sub_zero]
  rw [if_neg (by decide)]
  simp [Addr.add]
theorem splice_mac (B : Nat) (z l : List UInt8) (_h : l.length ≤ 64) : splice (macC B z) 1 (Go.Lib.byteCells l) = macC B (l ++ z.drop l.length) := by
  unfold splice macC
  rw [bc_len, Nat.add_comm 1, List.drop_succ_cons, List.take_succ_cons, List.take_zero]
  unfold Go.Lib.byteCells
  simp only [List.map_append, List.map_drop, List.cons_append, List.nil_append]
theorem built_mac (B : Nat) : ((Tryd.zeroCells128).setIfInBounds 0 (.pointer (some ⟨B, 0, none⟩))) = (macC B zeroB).toArray := by rfl

set_option maxRecDepth 100000 in
set_option maxHeartbeats 16000000 in
theorem macNew_any (a : Option Addr) (c : Nat) (l : List UInt8) (w : World) (hT : Tab w) (hB : Bytes w.heap.size w.heap.size a l w) (hc : l.length ≤ c) (hm : l.length ≤ 140737488351232) :
    Calls Tryd.prog 39 #[.slice a l.length c] w fun e w' => ∃ M B, e = .returned (.pointer (some ⟨M, 0, none⟩)) ∧ w.heap.size ≤ B ∧ B < M ∧ MB w' M B (macK l) ∧ Took B firstI 0 (mask 54 (macK l)) w' ∧ Below w.heap.size w w' := by
  have HT := Lib.hid hT
  have HBa := Lib.hid hB
  have HNew := Lib.hid (fun w => new_any w)
  have HSum := Lib.hid (fun v hv => sum_one a c l w hT hB hc hm v hv)
  obtain ⟨n, hn⟩ : ∃ n, l.length = n := ⟨_, rfl⟩
  have HL := Lib.hid hn
  rw [hn] at hc hm HSum ⊢
  have HM := Lib.hid hm
  have HC := Lib.hid hc
  clear hT hB hn hc hm
  go_enter Tryd.func39, Tryd.ntmps39
  go_wp2_with fail
  refine (HNew.out _).mono ?_
  rintro e w1 ⟨B, rfl, hBl, hTk1, hb1⟩
  have HG1 := Lib.hid hb1
  have HTk1 := Lib.hid hTk1
  have hBw : B < w1.heap.size := hTk1.lt
  have HBw := Lib.hid (And.intro hBl hBw)
  clear hBl hBw hTk1 hb1
  obtain ⟨v2, hv2⟩ : ∃ v, v = w1.alloc (.cells (macC B zeroB).toArray 128) := ⟨_, rfl⟩
  have HV2 := Lib.hid hv2.symm
  have HMc2 : Hid (v2.heap[w1.heap.size]? = some (.cells (macC B zeroB).toArray 128 (0, 0))) := Lib.hid (by rw [hv2]; exact heap_last _ _)
  have HG2 : Hid (Below w.heap.size w v2) := Lib.hid (by rw [hv2]; exact HG1.out.alloc HG1.out.size _)
  have HTk2 : Hid (Took B firstI 0 [] v2) := Lib.hid (by rw [hv2]; exact HTk1.out.alloc _)
  have HZ2 : Hid (v2.heap.size = w1.heap.size + 1) := Lib.hid (by rw [hv2]; simp)
  obtain ⟨M, hM⟩ : ∃ M, w1.heap.size = M := ⟨_, rfl⟩
  have HMM := Lib.hid hM
  have HBM : Hid (w.heap.size ≤ B ∧ B < M) := Lib.hid (by have := HBw.out; omega)
  rw [hM] at HMc2
  clear hv2 hM
  by_cases h64 : 64 < n
  · have hd : decide ((n : Int) > 64) = true := decide_eq_true (by omega)
    have hti : (64 : Int) < (n : Int) := by omega
    obtain ⟨D, hD⟩ : ∃ D, shaL l = D := ⟨_, rfl⟩
    have HDl : Hid (D.length = 32) := Lib.hid (by rw [← hD]; exact sumI_length _ _ _)
    have HK0 : Hid (macK l = D ++ zeroB.drop 32) := Lib.hid (by
      unfold macK keyOf
      rw [HL.out, if_pos h64, hD, HDl.out])
    have hS := HSum.out v2 HG2.out
    rw [HZ2.out, show sumI firstI 0 l = D from hD] at hS
    unfold dig at hS
    have HS := Lib.hid hS
    have HN64 : Hid (32 ≤ 64) := Lib.hid (by decide)
    have HYi := Lib.hid (dig_size D HDl.out)
    have HYo := Lib.hid (dig_one D)
    have HYs : Hid ((Go.Lib.byteCells zero32).toArray.size = (Go.Lib.byteCells D).toArray.size) := Lib.hid (by rw [List.size_toArray, List.size_toArray, bc_len, bc_len, HDl.out]; rfl)
    clear hS hD
    go_wp2_with fail
    refine calls_at (congrArg (fun v => World.alloc v (.cells #[Value.slice a n c] 28)) HV2.out) ?_
    refine HS.out.mono ?_
    rintro e w3 ⟨rfl, hb3'⟩
    have hb3 : Below v2.heap.size v2 w3 := by rw [HZ2.out]; exact hb3'
    have HG3 : Hid (Below w.heap.size w w3) := Lib.hid (HG2.out.trans (hb3.mono HG2.out.size))
    have HTk3 : Hid (Took B firstI 0 [] w3) := Lib.hid (HTk2.out.keep hb3 HTk2.out.lt)
    have HMc3 : Hid (w3.heap[M]? = some (.cells (macC B zeroB).toArray 128 (0, 0))) := Lib.hid ((hb3.block M (by have := HZ2.out; have := HMM.out; omega)).trans HMc2.out)
    obtain ⟨v4, hv4⟩ : ∃ v, v = w3.alloc (.cells (Go.Lib.byteCells D).toArray 48) := ⟨_, rfl⟩
    have HV4 := Lib.hid ((World.setRow_alloc_new w3 (Go.Lib.byteCells zero32).toArray (Go.Lib.byteCells D).toArray 48).trans hv4.symm)
    have HG : Hid (Below w.heap.size w v4) := Lib.hid (by rw [hv4]; exact HG3.out.alloc HG3.out.size _)
    have HTk : Hid (Took B firstI 0 [] v4) := Lib.hid (by rw [hv4]; exact HTk3.out.alloc _)
    have HMc : Hid (v4.heap[M]? = some (.cells (macC B zeroB).toArray 128 (0, 0))) := Lib.hid (by rw [hv4, (MapKept.heap_alloc _ _).2 _ (Array.getElem?_eq_some_iff.1 HMc3.out).1]; exact HMc3.out)
    have HBy : Hid (Bytes v4.heap.size v4.heap.size (some ⟨w3.heap.size, 0, none⟩) D v4) := Lib.hid (row_bytes (by rw [hv4]; exact heap_last _ _) (by rw [hv4]; simp) (by rw [hv4]; simp))
    clear hv4 hb3 hb3'
    have HSz : Hid ((Tryd.prog.info? 5).map (·.size) = some 1) := Lib.hid (by kernel_rfl)
    have HIn : Hid ((Tryd.prog.info? 126).map (·.size) = some [Value.pointer (some ⟨B, 0, none⟩)].length) := Lib.hid (by kernel_rfl)
    have hsl := fun w => slice_all64o M 1 w
    go_wp2_with (first | (refine wpList_store_row rfl 48 (.tmp 4) (.tmp 14) rfl w3.heap.size (Go.Lib.byteCells D).toArray rfl rfl 48 (Go.Lib.byteCells zero32).toArray (heap_last _ _) HYi.out HYs.out HYo.out ?_; refine wpList_world HV4.out ?_) | (refine wpList_copy_but rfl (.tmp 19) (.tmp 20) 28 28 rfl 5 Tryd.underlying28 HSz.out _ _ _ _ _ _ rfl rfl w1.heap.size 1 (macC B zeroB) 128 (by rw [HMM.out]; exact HMc.out) (Go.Lib.byteCells D) ?kn ?kp ?kf (byteCells_one _) ?_))
    case kn => rw [bc_len, HDl.out]; show _ = min 32 64; have := HN64.out; omega
    case kp =>
      intro h
      rw [bc_len] at h
      have hs := bytes_src HBy.out _ h (Nat.le_refl _)
      rw [List.take_length] at hs
      first | exact hs | exact ⟨rfl, hs⟩ | (obtain ⟨ad, had, h2⟩ := hs; cases had; intro j v hv; have h3 := h2 j v hv; rw [Addr.add_lit, Nat.zero_add] at h3; exact h3)
    case kf => rw [bc_len, HDl.out]; have := HN64.out; first | (simp [macC, bc_len, zeroB]; done) | (simp [macC, bc_len, zeroB]; omega)
    rw [HMM.out]
    intro v6 HSp HBt0
    have HBt : Hid (But v4.heap.size M v4 v6) := Lib.hid (HBt0.out)
    clear HBt0
    obtain ⟨KK, hKK⟩ : ∃ k, D ++ zeroB.drop 32 = k := ⟨_, rfl⟩
    have HKK := Lib.hid hKK
    have HKl : Hid (KK.length = 64) := Lib.hid (by rw [← hKK, List.length_append, List.length_drop, HDl.out]; show 32 + (64 - 32) = 64; have := HN64.out; omega)
    have HMB6 : Hid (MB v6 M B KK) := Lib.hid ⟨by rw [HSp.out, ← hKK, splice_mac _ _ _ (by rw [HDl.out]; exact HN64.out), HDl.out], HKl.out⟩
    have HTk6 : Hid (Took B firstI 0 [] v6) := Lib.hid (took_copy HTk.out (HBt.out.block B HTk.out.lt (by have := HBM.out; omega)))
    have HG6 : Hid (Below w.heap.size w v6) := Lib.hid (HG.out.trans (HBt.out.below (by have := HBM.out; omega) HG.out.size))
    clear hKK HSp HMc HTk HG hsl
    obtain ⟨SS, hSS⟩ : ∃ SS : World → Prop, SS = fun w' => w'.rangeAt M 0 [Value.pointer (some ⟨B, 0, none⟩)] := ⟨_, rfl⟩
    have HSR : Hid (∀ w', SS w' → w'.rangeAt M 0 [Value.pointer (some ⟨B, 0, none⟩)]) := Lib.hid (by rw [hSS]; exact fun w h => h)
    have HSM : Hid (∀ w', MB w' M B KK → SS w') := Lib.hid (by
      rw [hSS]
      intro w' h j v hv
      rw [cell_of_heap h.heap, Nat.zero_add]
      match j, hv with
      | 0, hv => exact hv)
    have HSS : Hid (∀ w', Below v6.heap.size v6 w' → SS w') := Lib.hid (fun w' h => HSM.out w' (HMB6.out.keep h HMB6.out.lt))
    clear hSS
    go_wp2_with fail
    refine wp_region_held_drew (S := SS) (by kernel_rfl) (HSS.out _ (below_drawn 1 (Below.refl _ _))) (fun hHeld => ?_)
    first | (refine held_take 0 _ rfl (by kernel_rfl) (by kernel_rfl) (by kernel_rfl) (v := ?_) (fun _ _ _ h => h) ?_ rfl hHeld ?_; rotate_left; focus (intro w hS; skip; go_simp; try with_reducible rfl)) | (refine held_skip 0 _ rfl (by kernel_rfl) (by kernel_rfl) (by kernel_rfl) (fun _ _ _ h => h) rfl hHeld ?_)
    show wpAnyH _ _ _ _ _ _ _ { tmps := _, defers := _ } _
    try dsimp only
    try simp only [List.setIfInBounds_toArray]
    try simp only [List.set_cons_succ]
    try simp only [List.set_cons_zero]
    first | (refine held_take 1 _ rfl (by kernel_rfl) (by kernel_rfl) (by kernel_rfl) (v := ?_) (fun _ _ _ h => h) ?_ rfl hHeld ?_; rotate_left; focus (intro w hS; skip; go_simp; try with_reducible rfl)) | (refine held_skip 1 _ rfl (by kernel_rfl) (by kernel_rfl) (by kernel_rfl) (fun _ _ _ h => h) rfl hHeld ?_)
    show wpAnyH _ _ _ _ _ _ _ { tmps := _, defers := _ } _
    try dsimp only
    try simp only [List.setIfInBounds_toArray]
    try simp only [List.set_cons_succ]
    try simp only [List.set_cons_zero]
    first | (refine held_take 2 _ rfl (by kernel_rfl) (by kernel_rfl) (by kernel_rfl) (v := ?_) (fun _ _ _ h => h) ?_ rfl hHeld ?_; rotate_left; focus (intro w hS; skip; go_simp; try with_reducible rfl)) | (refine held_skip 2 _ rfl (by kernel_rfl) (by kernel_rfl) (by kernel_rfl) (fun _ _ _ h => h) rfl hHeld ?_)
    show wpAnyH _ _ _ _ _ _ _ { tmps := _, defers := _ } _
    try dsimp only
    try simp only [List.setIfInBounds_toArray]
    try simp only [List.set_cons_succ]
    try simp only [List.set_cons_zero]
    refine held_load 3 _ rfl (by kernel_rfl) (by kernel_rfl) (by kernel_rfl) 126 (.tmp 24) rfl M 0 [.pointer (some ⟨B, 0, none⟩)] _ (fun _ _ _ h => h) rfl (fun w h => HSR.out w h) Tryd.underlying126 rfl HIn.out rfl hHeld ?_
    show wpAnyH _ _ _ _ _ _ _ { tmps := _, defers := _ } _
    try dsimp only
    try simp only [List.setIfInBounds_toArray]
    try simp only [List.set_cons_succ]
    try simp only [List.set_cons_zero]
    first | (refine held_take 4 _ rfl (by kernel_rfl) (by kernel_rfl) (by kernel_rfl) (v := ?_) (fun _ _ _ h => h) ?_ rfl hHeld ?_; rotate_left; focus (intro w hS; skip; go_simp; try with_reducible rfl)) | (refine held_skip 4 _ rfl (by kernel_rfl) (by kernel_rfl) (by kernel_rfl) (fun _ _ _ h => h) rfl hHeld ?_)
    show wpAnyH _ _ _ _ _ _ _ { tmps := _, defers := _ } _
    try dsimp only
    try simp only [List.setIfInBounds_toArray]
    try simp only [List.set_cons_succ]
    try simp only [List.set_cons_zero]
    refine held_next 5 _ (by kernel_rfl) rfl rfl fun K hK => ?_
    go_simp
    refine (masked_any M B KK 54 _ HMB6.out.drew).mono ?_
    rintro e w7 ⟨g, rfl, hgl, hgh, hb7⟩
    show K _ _
    have hb7' : Below v6.heap.size v6 w7 := (below_drawn 1 (Below.refl v6.heap.size v6)).trans (show Below v6.heap.size v6.drew w7 from hb7)
    refine hK _ _ (HSS.out _ hb7') (fun hHeld => ?_)
    clear hK K
    show wpAnyH _ _ _ _ _ _ _ { tmps := _, defers := _ } _
    try dsimp only
    try simp only [List.setIfInBounds_toArray]
    try simp only [List.set_cons_succ]
    try simp only [List.set_cons_zero]
    refine held_next 6 _ (by kernel_rfl) rfl rfl fun K hK => ?_
    go_simp
    have hb8 : Below v6.heap.size v6 (w7.alloc (.cells #[.slice (some ⟨g, 0, none⟩) 64 64] 28)) := hb7'.alloc hb7'.size _
    refine hK _ _ (HSS.out _ hb8) (fun hHeld => ?_)
    clear hK K
    show wpAnyH _ _ _ _ _ _ _ { tmps := _, defers := _ } _
    try dsimp only
    try simp only [List.setIfInBounds_toArray]
    try simp only [List.set_cons_succ]
    try simp only [List.set_cons_zero]
    refine held_next 7 _ (by kernel_rfl) rfl rfl fun K hK => ?_
    go_simp
    have HTk8 : Took B firstI 0 [] (w7.alloc (.cells #[.slice (some ⟨g, 0, none⟩) 64 64] 28)) := HTk6.out.keep hb8 HTk6.out.lt
    have hgl' : v6.heap.size ≤ g := hgl
    have hg7 : g < w7.heap.size := (Array.getElem?_eq_some_iff.1 hgh).1
    have hBlt := HTk6.out.lt
    have hTake := inTake_any B [] (some ⟨w7.heap.size, 0, none⟩) 1 1 (by decide) (fun _ => some ⟨g, 0, none⟩) (fun _ => 64) (fun _ => mask 54 KK) _ (HT.out.below (HG6.out.trans (hb8.mono HG6.out.size))) HTk8
      (parts_oneK (by rw [cell_of_heap (heap_last _ _), mask_length, HKl.out]; rfl) (by simp) (by have := hb7'.size; omega) (row_bytes (((MapKept.heap_alloc _ _).2 _ hg7).trans hgh) (by simp; omega) (by omega)) (by rw [mask_length, HKl.out]; decide) (by rw [mask_length, HKl.out]; decide)) (by rw [cat_one, mask_length, HKl.out]; decide)
    refine hTake.mono ?_
    rintro e w9 ⟨rfl, hTk9, hb9⟩
    show K _ _
    have hM9 : MB w9 M B KK := ⟨(hb9.block M (by have := HMB6.out.lt; have := hb8.size; omega) (by have := HBM.out; omega)).trans ((hb8.block M HMB6.out.lt).trans HMB6.out.heap), HMB6.out.len⟩
    have hG9 : Below w.heap.size w w9 := (HG6.out.trans (hb8.mono HG6.out.size)).trans (hb9.below HBM.out.1 (by have := HG6.out.size; have := hb8.size; omega))
    refine hK _ _ (HSM.out _ hM9) (fun hHeld => ?_)
    clear hK K
    show wpAnyH _ _ _ _ _ _ _ { tmps := _, defers := _ } _
    try dsimp only
    try simp only [List.setIfInBounds_toArray]
    try simp only [List.set_cons_succ]
    try simp only [List.set_cons_zero]
    refine wpAnyH_done (by kernel_rfl) ?_ _
    go_wp2_with fail
    go_ret
    refine ⟨M, B, rfl, HBM.out.1, HBM.out.2, ?_, ?_, hG9⟩
    · rw [HK0.out, HKK.out]
      exact hM9
    · rw [HK0.out, HKK.out]
      rw [cat_one, List.nil_append] at hTk9
      exact hTk9
  · have hd : decide ((n : Int) > 64) = false := decide_eq_false (by omega)
    have hti : ¬ (64 : Int) < (n : Int) := by omega
    have HK0 : Hid (macK l = l ++ zeroB.drop n) := Lib.hid (by unfold macK keyOf; rw [HL.out, if_neg h64, HL.out])
    have HN64 : Hid (n ≤ 64) := Lib.hid (by omega)
    have HMc : Hid ((w1.alloc (.cells (macC B zeroB).toArray 128)).heap[M]? = some (.cells (macC B zeroB).toArray 128 (0, 0))) := Lib.hid (by rw [← HMM.out]; exact heap_last _ _)
    have HBy : Hid (Bytes (w1.alloc (.cells (macC B zeroB).toArray 128)).heap.size (w1.alloc (.cells (macC B zeroB).toArray 128)).heap.size a l (w1.alloc (.cells (macC B zeroB).toArray 128))) := Lib.hid (by
      have h := HBa.out.keep HG2.out
      rw [← HV2.out] at h
      refine h.at ?_ ?_
      · have := HG1.out.size; simp; omega
      · have := HG1.out.size; simp; omega)
    have HTk := HTk2
    have HG := HG2
    have HSz : Hid ((Tryd.prog.info? 5).map (·.size) = some 1) := Lib.hid (by kernel_rfl)
    have HIn : Hid ((Tryd.prog.info? 126).map (·.size) = some [Value.pointer (some ⟨B, 0, none⟩)].length) := Lib.hid (by kernel_rfl)
    have hsl := fun w => slice_all64o M 1 w
    go_wp2_with (refine wpList_copy_but rfl (.tmp 19) (.tmp 20) 28 28 rfl 5 Tryd.underlying28 HSz.out _ _ _ _ _ _ rfl rfl w1.heap.size 1 (macC B zeroB) 128 (by rw [HMM.out]; exact HMc.out) (Go.Lib.byteCells l) ?kn ?kp ?kf (byteCells_one _) ?_)
    case kn => rw [bc_len, HL.out]; show _ = min n 64; have := HN64.out; omega
    case kp =>
      intro h
      rw [bc_len] at h
      have hs := bytes_src HBy.out _ h (Nat.le_refl _)
      rw [List.take_length] at hs
      first | exact hs | exact ⟨rfl, hs⟩ | (obtain ⟨ad, had, h2⟩ := hs; cases had; intro j v hv; have h3 := h2 j v hv; rw [Addr.add_lit, Nat.zero_add] at h3; exact h3)
    case kf => rw [bc_len, HL.out]; have := HN64.out; first | (simp [macC, bc_len, zeroB]; done) | (simp [macC, bc_len, zeroB]; omega)
    rw [HMM.out]
    intro v6 HSp HBt0
    have HBt : Hid (But v2.heap.size M v2 v6) := Lib.hid (by
      have h : But (M + 1) M (w1.alloc (.cells (macC B zeroB).toArray 128)) v6 := HBt0.out
      rw [HV2.out] at h
      rw [HZ2.out, HMM.out]
      exact h)
    clear HBt0
    obtain ⟨KK, hKK⟩ : ∃ k, l ++ zeroB.drop n = k := ⟨_, rfl⟩
    have HKK := Lib.hid hKK
    have HKl : Hid (KK.length = 64) := Lib.hid (by rw [← hKK, List.length_append, List.length_drop, HL.out]; show n + (64 - n) = 64; have := HN64.out; omega)
    have HMB6 : Hid (MB v6 M B KK) := Lib.hid ⟨by rw [HSp.out, ← hKK, splice_mac _ _ _ (by rw [HL.out]; exact HN64.out), HL.out], HKl.out⟩
    have HTk6 : Hid (Took B firstI 0 [] v6) := Lib.hid (took_copy HTk.out (HBt.out.block B HTk.out.lt (by have := HBM.out; omega)))
    have HG6 : Hid (Below w.heap.size w v6) := Lib.hid (HG.out.trans (HBt.out.below (by have := HBM.out; omega) HG.out.size))
    clear hKK HSp HMc HTk HG hsl
    obtain ⟨SS, hSS⟩ : ∃ SS : World → Prop, SS = fun w' => w'.rangeAt M 0 [Value.pointer (some ⟨B, 0, none⟩)] := ⟨_, rfl⟩
    have HSR : Hid (∀ w', SS w' → w'.rangeAt M 0 [Value.pointer (some ⟨B, 0, none⟩)]) := Lib.hid (by rw [hSS]; exact fun w h => h)
    have HSM : Hid (∀ w', MB w' M B KK → SS w') := Lib.hid (by
      rw [hSS]
      intro w' h j v hv
      rw [cell_of_heap h.heap, Nat.zero_add]
      match j, hv with
      | 0, hv => exact hv)
    have HSS : Hid (∀ w', Below v6.heap.size v6 w' → SS w') := Lib.hid (fun w' h => HSM.out w' (HMB6.out.keep h HMB6.out.lt))
    clear hSS
    go_wp2_with fail
    refine wp_region_held_drew (S := SS) (by kernel_rfl) (HSS.out _ (below_drawn 1 (Below.refl _ _))) (fun hHeld => ?_)
    first | (refine held_take 0 _ rfl (by kernel_rfl) (by kernel_rfl) (by kernel_rfl) (v := ?_) (fun _ _ _ h => h) ?_ rfl hHeld ?_; rotate_left; focus (intro w hS; skip; go_simp; try with_reducible rfl)) | (refine held_skip 0 _ rfl (by kernel_rfl) (by kernel_rfl) (by kernel_rfl) (fun _ _ _ h => h) rfl hHeld ?_)
    show wpAnyH _ _ _ _ _ _ _ { tmps := _, defers := _ } _
    try dsimp only
    try simp only [List.setIfInBounds_toArray]
    try simp only [List.set_cons_succ]
    try simp only [List.set_cons_zero]
    first | (refine held_take 1 _ rfl (by kernel_rfl) (by kernel_rfl) (by kernel_rfl) (v := ?_) (fun _ _ _ h => h) ?_ rfl hHeld ?_; rotate_left; focus (intro w hS; skip; go_simp; try with_reducible rfl)) | (refine held_skip 1 _ rfl (by kernel_rfl) (by kernel_rfl) (by kernel_rfl) (fun _ _ _ h => h) rfl hHeld ?_)
    show wpAnyH _ _ _ _ _ _ _ { tmps := _, defers := _ } _
    try dsimp only
    try simp only [List.setIfInBounds_toArray]
    try simp only [List.set_cons_succ]
    try simp only [List.set_cons_zero]
    first | (refine held_take 2 _ rfl (by kernel_rfl) (by kernel_rfl) (by kernel_rfl) (v := ?_) (fun _ _ _ h => h) ?_ rfl hHeld ?_; rotate_left; focus (intro w hS; skip; go_simp; try with_reducible rfl)) | (refine held_skip 2 _ rfl (by kernel_rfl) (by kernel_rfl) (by kernel_rfl) (fun _ _ _ h => h) rfl hHeld ?_)
    show wpAnyH _ _ _ _ _ _ _ { tmps := _, defers := _ } _
    try dsimp only
    try simp only [List.setIfInBounds_toArray]
    try simp only [List.set_cons_succ]
    try simp only [List.set_cons_zero]
    refine held_load 3 _ rfl (by kernel_rfl) (by kernel_rfl) (by kernel_rfl) 126 (.tmp 24) rfl M 0 [.pointer (some ⟨B, 0, none⟩)] _ (fun _ _ _ h => h) rfl (fun w h => HSR.out w h) Tryd.underlying126 rfl HIn.out rfl hHeld ?_
    show wpAnyH _ _ _ _ _ _ _ { tmps := _, defers := _ } _
    try dsimp only
    try simp only [List.setIfInBounds_toArray]
    try simp only [List.set_cons_succ]
    try simp only [List.set_cons_zero]
    first | (refine held_take 4 _ rfl (by kernel_rfl) (by kernel_rfl) (by kernel_rfl) (v := ?_) (fun _ _ _ h => h) ?_ rfl hHeld ?_; rotate_left; focus (intro w hS; skip; go_simp; try with_reducible rfl)) | (refine held_skip 4 _ rfl (by kernel_rfl) (by kernel_rfl) (by kernel_rfl) (fun _ _ _ h => h) rfl hHeld ?_)
    show wpAnyH _ _ _ _ _ _ _ { tmps := _, defers := _ } _
    try dsimp only
    try simp only [List.setIfInBounds_toArray]
    try simp only [List.set_cons_succ]
    try simp only [List.set_cons_zero]
    refine held_next 5 _ (by kernel_rfl) rfl rfl fun K hK => ?_
    go_simp
    refine (masked_any M B KK 54 _ HMB6.out.drew).mono ?_
    rintro e w7 ⟨g, rfl, hgl, hgh, hb7⟩
    show K _ _
    have hb7' : Below v6.heap.size v6 w7 := (below_drawn 1 (Below.refl v6.heap.size v6)).trans (show Below v6.heap.size v6.drew w7 from hb7)
    refine hK _ _ (HSS.out _ hb7') (fun hHeld => ?_)
    clear hK K
    show wpAnyH _ _ _ _ _ _ _ { tmps := _, defers := _ } _
    try dsimp only
    try simp only [List.setIfInBounds_toArray]
    try simp only [List.set_cons_succ]
    try simp only [List.set_cons_zero]
    refine held_next 6 _ (by kernel_rfl) rfl rfl fun K hK => ?_
    go_simp
    have hb8 : Below v6.heap.size v6 (w7.alloc (.cells #[.slice (some ⟨g, 0, none⟩) 64 64] 28)) := hb7'.alloc hb7'.size _
    refine hK _ _ (HSS.out _ hb8) (fun hHeld => ?_)
    clear hK K
    show wpAnyH _ _ _ _ _ _ _ { tmps := _, defers := _ } _
    try dsimp only
    try simp only [List.setIfInBounds_toArray]
    try simp only [List.set_cons_succ]
    try simp only [List.set_cons_zero]
    refine held_next 7 _ (by kernel_rfl) rfl rfl fun K hK => ?_
    go_simp
    have HTk8 : Took B firstI 0 [] (w7.alloc (.cells #[.slice (some ⟨g, 0, none⟩) 64 64] 28)) := HTk6.out.keep hb8 HTk6.out.lt
    have hgl' : v6.heap.size ≤ g := hgl
    have hg7 : g < w7.heap.size := (Array.getElem?_eq_some_iff.1 hgh).1
    have hBlt := HTk6.out.lt
    have hTake := inTake_any B [] (some ⟨w7.heap.size, 0, none⟩) 1 1 (by decide) (fun _ => some ⟨g, 0, none⟩) (fun _ => 64) (fun _ => mask 54 KK) _ (HT.out.below (HG6.out.trans (hb8.mono HG6.out.size))) HTk8
      (parts_oneK (by rw [cell_of_heap (heap_last _ _), mask_length, HKl.out]; rfl) (by simp) (by have := hb7'.size; omega) (row_bytes (((MapKept.heap_alloc _ _).2 _ hg7).trans hgh) (by simp; omega) (by omega)) (by rw [mask_length, HKl.out]; decide) (by rw [mask_length, HKl.out]; decide)) (by rw [cat_one, mask_length, HKl.out]; decide)
    refine hTake.mono ?_
    rintro e w9 ⟨rfl, hTk9, hb9⟩
    show K _ _
    have hM9 : MB w9 M B KK := ⟨(hb9.block M (by have := HMB6.out.lt; have := hb8.size; omega) (by have := HBM.out; omega)).trans ((hb8.block M HMB6.out.lt).trans HMB6.out.heap), HMB6.out.len⟩
    have hG9 : Below w.heap.size w w9 := (HG6.out.trans (hb8.mono HG6.out.size)).trans (hb9.below HBM.out.1 (by have := HG6.out.size; have := hb8.size; omega))
    refine hK _ _ (HSM.out _ hM9) (fun hHeld => ?_)
    clear hK K
    show wpAnyH _ _ _ _ _ _ _ { tmps := _, defers := _ } _
    try dsimp only
    try simp only [List.setIfInBounds_toArray]
    try simp only [List.set_cons_succ]
    try simp only [List.set_cons_zero]
    refine wpAnyH_done (by kernel_rfl) ?_ _
    go_wp2_with fail
    go_ret
    refine ⟨M, B, rfl, HBM.out.1, HBM.out.2, ?_, ?_, hG9⟩
    · rw [HK0.out, HKK.out]
      exact hM9
    · rw [HK0.out, HKK.out]
      rw [cat_one, List.nil_append] at hTk9
      exact hTk9
end Go.Proofs.YtjjahcidncnogaaDoor
