/- ShaKnown, walked. -/
import Derived.Test.YtphgaemmbdogmaaDoorShaPiecesW
import Derived.Test.YtphgaemmbdogmaaDoorShaNil
import Derived.Test.YtphgaemmbdogmaaDoorShaLong
import Derived.Test.YtphgaemmbdogmaaDoorHeld2
import Derived.Test.YtphgaemmbdogmaaDoorShaKnown0
import Derived.Deep.CutRange
namespace Go.Proofs.YtphgaemmbdogmaaDoor
open Go.ChangeShapes Go.WideShapes Go.ChangeAt Go.RowKit Go.Lib

def noneL : List UInt8 := [0xe3, 0xb0, 0xc4, 0x42, 0x98, 0xfc, 0x1c, 0x14, 0x9a, 0xfb, 0xf4, 0xc8, 0x99, 0x6f, 0xb9, 0x24, 0x27, 0xae, 0x41, 0xe4, 0x64, 0x9b, 0x93, 0x4c, 0xa4, 0x95, 0x99, 0x1b, 0x78, 0x52, 0xb8, 0x55]
theorem sha_none : sumI firstI 0 [] = noneL := by decide +kernel

def triF {α : Type} (x y z : α) (i : Nat) : α := if i = 0 then x else if i = 1 then y else z
theorem sum_abc3 (W : World) (hT : Tab W) (u : World) (hu : Below W.heap.size W u) (A B : Nat) (hA : u.heap[A]? = some (.cells #[.int .u8 97] 5 (1, 2))) (hB : u.heap[B]? = some (.cells #[.int .u8 98, .int .u8 99] 5 (2, 3))) :
    Calls Tryd.prog 17 #[.slice (some ⟨u.heap.size, 0, none⟩) 3 3] (u.alloc (.cells #[.slice (some ⟨A, 0, none⟩) 1 1, .slice none 0 0, .slice (some ⟨B, 0, none⟩) 2 2] 29)) fun e w' => e = .returned (dig abcL) ∧ Below u.heap.size u w' := by
  have hg : Below W.heap.size W (u.alloc (.cells #[.slice (some ⟨A, 0, none⟩) 1 1, .slice none 0 0, .slice (some ⟨B, 0, none⟩) 2 2] 29)) := hu.alloc hu.size _
  have la : A < u.heap.size := (Array.getElem?_eq_some_iff.1 hA).1
  have lb : B < u.heap.size := (Array.getElem?_eq_some_iff.1 hB).1
  have ca : (u.alloc (.cells #[.slice (some ⟨A, 0, none⟩) 1 1, .slice none 0 0, .slice (some ⟨B, 0, none⟩) 2 2] 29)).heap[A]? = some (.cells #[.int .u8 97] 5 (1, 2)) := by rw [(MapKept.heap_alloc _ _).2 _ la]; exact hA
  have cb : (u.alloc (.cells #[.slice (some ⟨A, 0, none⟩) 1 1, .slice none 0 0, .slice (some ⟨B, 0, none⟩) 2 2] 29)).heap[B]? = some (.cells #[.int .u8 98, .int .u8 99] 5 (2, 3)) := by rw [(MapKept.heap_alloc _ _).2 _ lb]; exact hB
  refine (sums_any _ 3 3 (by decide) (triF (some ⟨A, 0, none⟩) none (some ⟨B, 0, none⟩)) (triF 1 0 2) (triF [97] [] [98, 99]) _ (hT.below hg) ⟨fun _ => ⟨u.heap.size, 0, rfl, by simp, fun i hi => ?_⟩, fun i hi => ?_⟩).mono ?_
  · rw [cell_of_heap (heap_last _ _)]
    obtain rfl | rfl | rfl : i = 0 ∨ i = 1 ∨ i = 2 := by omega
    all_goals rfl
  · obtain rfl | rfl | rfl : i = 0 ∨ i = 1 ∨ i = 2 := by omega
    · refine ⟨fun _ => ⟨A, 0, rfl, by simp; omega, by simp; omega, fun j hj => ?_⟩, by decide, by decide⟩
      rw [cell_of_heap ca]
      have hj3 : j < 1 := hj
      obtain rfl : j = 0 := by omega
      rfl
    · exact ⟨fun hn => absurd rfl hn, by decide, by decide⟩
    · refine ⟨fun _ => ⟨B, 0, rfl, by simp; omega, by simp; omega, fun j hj => ?_⟩, by decide, by decide⟩
      rw [cell_of_heap cb]
      have hj3 : j < 2 := hj
      obtain rfl | rfl : j = 0 ∨ j = 1 := by omega
      all_goals rfl
  · rintro e w' ⟨rfl, hb⟩
    refine ⟨?_, ((Below.refl _ u).alloc (Nat.le_refl _) _).trans (hb.mono (by simp))⟩
    rw [show shaL (cat (triF [97] [] [98, 99]) 3) = abcL from sha_abc]

theorem zdig : dig zero32 = .agg #[.int .u8 0, .int .u8 0, .int .u8 0, .int .u8 0, .int .u8 0, .int .u8 0, .int .u8 0, .int .u8 0, .int .u8 0, .int .u8 0, .int .u8 0, .int .u8 0, .int .u8 0, .int .u8 0, .int .u8 0, .int .u8 0, .int .u8 0, .int .u8 0, .int .u8 0, .int .u8 0, .int .u8 0, .int .u8 0, .int .u8 0, .int .u8 0, .int .u8 0, .int .u8 0, .int .u8 0, .int .u8 0, .int .u8 0, .int .u8 0, .int .u8 0, .int .u8 0] := by rfl
theorem zdig_same (w : World) : (Op.equalIn 10000 24 (.agg #[.int .u8 0, .int .u8 0, .int .u8 0, .int .u8 0, .int .u8 0, .int .u8 0, .int .u8 0, .int .u8 0, .int .u8 0, .int .u8 0, .int .u8 0, .int .u8 0, .int .u8 0, .int .u8 0, .int .u8 0, .int .u8 0, .int .u8 0, .int .u8 0, .int .u8 0, .int .u8 0, .int .u8 0, .int .u8 0, .int .u8 0, .int .u8 0, .int .u8 0, .int .u8 0, .int .u8 0, .int .u8 0, .int .u8 0, .int .u8 0, .int .u8 0, .int .u8 0]) (.agg #[.int .u8 0, .int .u8 0, .int .u8 0, .int .u8 0, .int .u8 0, .int .u8 0, .int .u8 0, .int .u8 0, .int .u8 0, .int .u8 0, .int .u8 0, .int .u8 0, .int .u8 0, .int .u8 0, .int .u8 0, .int .u8 0, .int .u8 0, .int .u8 0, .int .u8 0, .int .u8 0, .int .u8 0, .int .u8 0, .int .u8 0, .int .u8 0, .int .u8 0, .int .u8 0, .int .u8 0, .int .u8 0, .int .u8 0, .int .u8 0, .int .u8 0, .int .u8 0])).run Tryd.prog w = .ok true w := dig_same zero32 rfl w
def oneL : List UInt8 := 1 :: List.replicate 31 0
theorem zeros_parts (w : World) (K : Nat) (hK : K < w.heap.size) :
    PartsK ((w.alloc (.cells (madeCells #[.int .u8 0] 63) 5)).alloc (.cells #[.slice (some ⟨w.heap.size, 0, none⟩) 63 63] 29)).heap.size K (some ⟨w.heap.size + 1, 0, none⟩) 1 (fun _ => some ⟨w.heap.size, 0, none⟩) (fun _ => 63) (fun _ => List.replicate 63 0)
      ((w.alloc (.cells (madeCells #[.int .u8 0] 63) 5)).alloc (.cells #[.slice (some ⟨w.heap.size, 0, none⟩) 63 63] 29)) := by
  refine parts_oneK ?_ (by simp) (by omega) ?_ (by decide) (by decide)
  · have h := (MapKept.heap_alloc (w.alloc (.cells (madeCells #[.int .u8 0] 63) 5)) (.cells #[.slice (some ⟨w.heap.size, 0, none⟩) 63 63] 29)).1
    simp only [World.size_alloc] at h
    rw [cell_of_heap h]
    rfl
  · intro _
    refine ⟨w.heap.size, 0, rfl, by simp; omega, by omega, fun j hj => ?_⟩
    have hj3 : j < 63 := hj
    rw [Nat.zero_add, made_cell 63 j hj3 w _ (by rw [(MapKept.heap_alloc _ _).2 _ (by simp), (MapKept.heap_alloc _ _).1])]
    rw [List.getElem_replicate]
    rfl
theorem long_len (R : Nat) (w : World) (h : Took R zeros8 ((36028797018963967 : Nat) : Int) (List.replicate 63 0) w) :
    Calls Tryd.prog 23 #[.pointer (some ⟨R, 0, none⟩)] w fun e w' => e = .returned (.int .u64 2305843009213693951) ∧ ∃ n, w' = w.drewN n := by
  obtain ⟨rest, hH, _⟩ := h
  exact len_any R _ _ rest _ w hH
theorem field_mid0 (w : World) : (Instr.field 42 (.agg zeroMid.toArray) 2).run Tryd.prog w = .ok (.slice none 0 0) w := by kernel_rfl

set_option maxRecDepth 100000 in
set_option maxHeartbeats 16000000 in
theorem shaKnown_walk (W : World) (hT : Tab W) :
    Calls Tryd.prog 3 #[] W fun e w' => e = .returned (.bool true) ∧ Below W.heap.size W w' := by
  have HT := Lib.hid hT
  have HWorks := Lib.hid (fun w (h : Tab w) => works_any w h)
  have HFirst := Lib.hid (fun w => first_any w)
  obtain ⟨Y, hY⟩ : ∃ Y, (Go.Lib.byteCells noneL).toArray = Y := ⟨_, rfl⟩
  obtain ⟨Z, hZ⟩ : ∃ Z, cells32 firstI = Z := ⟨_, rfl⟩
  have HY := Lib.hid hY
  have HZ := Lib.hid hZ
  rw [hZ] at HFirst
  have HYi : Hid ((Tryd.prog.info? 24).map (·.size) = some Y.size) := Lib.hid (by rw [← hY]; exact dig_size noneL rfl)
  have HYo : Hid (Y.all (·.oneCell') = true) := Lib.hid (by rw [← hY]; exact dig_one noneL)
  have HYs : Hid ((Go.Lib.byteCells zero32).toArray.size = Y.size) := Lib.hid (by rw [← hY]; rfl)
  have HZi : Hid ((Tryd.prog.info? 26).map (·.size) = some Z.size) := Lib.hid (by rw [← hZ]; kernel_rfl)
  have HZo : Hid (Z.all (·.oneCell') = true) := Lib.hid (by rw [← hZ]; exact cells32_one _)
  have HZs : Hid ((cells32 zeros8).size = Z.size) := Lib.hid (by rw [← hZ]; rfl)
  clear hT hZ
  go_enter Tryd.func3, Tryd.ntmps3
  go_wp2_with fail
  refine (HWorks.out _ HT.out).mono ?_
  rintro e w1 ⟨rfl, hb1⟩
  have HG1 := Lib.hid hb1
  clear hb1
  have HT1 := Lib.hid (HT.out.below HG1.out)
  obtain ⟨v1, hv1⟩ : ∃ v, v = w1.alloc (.cells Y 24) := ⟨_, rfl⟩
  have HV1 := Lib.hid ((World.setRow_alloc_new w1 (Go.Lib.byteCells zero32).toArray Y 24).trans hv1.symm)
  have HR1 : Hid (v1.heap[w1.heap.size]? = some (.cells Y 24 (0, 0))) := Lib.hid (by rw [hv1]; exact heap_last _ _)
  have HGv1 : Hid (Below W.heap.size W v1) := Lib.hid (by rw [hv1]; exact HG1.out.alloc HG1.out.size _)
  have HS1 : Hid (v1.heap.size = w1.heap.size + 1) := Lib.hid (by rw [hv1]; simp)
  clear hv1 hY
  go_wp2_with (refine wpList_store_row rfl 24 (.tmp 1) (.tmp 16) rfl w1.heap.size Y rfl (by rw [← HY.out]; rfl) 24 (Go.Lib.byteCells zero32).toArray ?hg HYi.out HYs.out HYo.out ?_)
  case hg => exact heap_last _ _
  refine calls_at HV1.out ?_
  refine (HFirst.out v1).mono ?_
  rintro e w2 ⟨rfl, hb2⟩
  have HG2 : Hid (Below W.heap.size W w2) := Lib.hid (HGv1.out.trans (hb2.mono HGv1.out.size))
  have HR2 : Hid (w2.heap[w1.heap.size]? = some (.cells Y 24 (0, 0))) := Lib.hid ((hb2.block _ (by have := HS1.out; omega)).trans HR1.out)
  obtain ⟨V, hV⟩ : ∃ V, w1.heap.size = V := ⟨_, rfl⟩
  have HVl : Hid (V < w2.heap.size ∧ W.heap.size ≤ V) := Lib.hid (by have := HS1.out; have := hb2.size; have := HG1.out.size; omega)
  rw [hV] at HR2 ⊢
  clear hb2 HR1 hV
  obtain ⟨v2, hv2⟩ : ∃ v, v = w2.alloc (.cells Z 26) := ⟨_, rfl⟩
  have HV2 := Lib.hid ((World.setRow_alloc_new w2 (cells32 zeros8) Z 26).trans hv2.symm)
  have HRy : Hid (v2.heap[V]? = some (.cells Y 24 (0, 0))) := Lib.hid (by rw [hv2, (MapKept.heap_alloc _ _).2 _ HVl.out.1]; exact HR2.out)
  have HRz : Hid (v2.heap[w2.heap.size]? = some (.cells Z 26 (0, 0))) := Lib.hid (by rw [hv2]; exact heap_last _ _)
  have HGv2 : Hid (Below W.heap.size W v2) := Lib.hid (by rw [hv2]; exact HG2.out.alloc HG2.out.size _)
  clear hv2 HR2
  go_wp2_with (refine wpList_store_row rfl 26 (.tmp 2) (.tmp 17) rfl w2.heap.size Z rfl rfl 26 (cells32 zeros8) ?hg HZi.out HZs.out HZo.out ?_)
  case hg => exact heap_last _ _
  refine code_at HV2.out ?_
  have HT2 := Lib.hid (HT.out.below HGv2.out)
  show Code.wp _ _ _ { tmps := _, defers := _ } _
  obtain ⟨G, hG⟩ : ∃ G, w2.heap.size = G := ⟨_, rfl⟩
  rw [hG] at HRz ⊢
  have HGl : Hid (W.heap.size ≤ G) := Lib.hid (by have := HG2.out.size; omega)
  clear hG
  go_cut [40] from 18 to 40 (fun s wx => s = .bool false ∧ Hid (Below W.heap.size W wx))
  case first =>
    have HNone := Lib.hid (fun w hw => sum_none W HT.out w hw)
    have HSame := Lib.hid (fun w => dig_same noneL rfl w)
    have HYc : Hid ((Tryd.prog.info? 24).map (·.size) = some (Go.Lib.byteCells noneL).length) := Lib.hid (by rw [bc_len]; kernel_rfl)
    rw [sha_none] at HNone
    unfold dig at HNone HSame
    rw [HY.out] at HNone HSame
    obtain ⟨S, hS⟩ : ∃ S : World → Prop, S = fun w => w.heap[V]? = some (.cells Y 24 (0, 0)) ∧ w.heap[G]? = some (.cells Z 26 (0, 0)) ∧ Below W.heap.size W w := ⟨_, rfl⟩
    have HS0 : Hid (∀ w, w.heap[V]? = some (.cells Y 24 (0, 0)) → w.heap[G]? = some (.cells Z 26 (0, 0)) → Below W.heap.size W w → S w) := Lib.hid (by rw [hS]; exact fun w h k l => ⟨h, k, l⟩)
    have HS1 : Hid (∀ w, S w → w.heap[V]? = some (.cells Y 24 (0, 0)) ∧ w.heap[G]? = some (.cells Z 26 (0, 0)) ∧ Below W.heap.size W w) := Lib.hid (by rw [hS]; exact fun w h => h)
    have HSr : Hid (∀ w, S w → w.rangeAt V 0 (Go.Lib.byteCells noneL)) := Lib.hid (by
      intro w h j x hx
      rw [cell_of_heap (HS1.out w h).1, Nat.zero_add, ← HY.out, List.getElem?_toArray, hx])
    have HSb : Hid (∀ w w', S w → Below w.heap.size w w' → S w') := Lib.hid (fun w w' h hb => by
      obtain ⟨h1, h2, h3⟩ := HS1.out w h
      exact HS0.out w' ((hb.block V (Array.getElem?_eq_some_iff.1 h1).1).trans h1) ((hb.block G (Array.getElem?_eq_some_iff.1 h2).1).trans h2) (h3.trans (hb.mono h3.size)))
    clear hS
    have hHeld0 : S v2.drew := HS0.out _ HRy.out HRz.out (below_drawn 1 HGv2.out)
    refine wp_region_held_drew (S := S) (by kernel_rfl) hHeld0 (fun hHeld => ?_)
    clear hHeld0
    refine held_load 1 _ rfl (by kernel_rfl) (by kernel_rfl) (by kernel_rfl) 24 (.tmp 1) rfl V 0 (Go.Lib.byteCells noneL) _ (fun _ _ _ h => h) rfl (fun w h => HSr.out w h) Tryd.underlying24 rfl HYc.out rfl hHeld ?_
    rw [HY.out]
    show wpAnyH _ _ _ _ _ _ _ { tmps := _, defers := _ } _
    try simp only [Act.put, List.setIfInBounds_toArray, List.set_cons_zero, List.set_cons_succ]
    refine held_next 0 _ (by kernel_rfl) rfl rfl fun K hK => ?_
    go_simp
    refine (HNone.out _ (HS1.out _ hHeld).2.2).mono ?_
    rintro e u3 ⟨rfl, hb3⟩
    show K _ _
    refine hK _ _ (HSb.out _ _ hHeld hb3) (fun hHeld => ?_)
    clear hK K hb3
    show wpAnyH _ _ _ _ _ _ _ { tmps := _, defers := _ } _
    try simp only [Act.put, List.setIfInBounds_toArray, List.set_cons_zero, List.set_cons_succ]
    first | (refine held_take 2 _ rfl (by kernel_rfl) (by kernel_rfl) (by kernel_rfl) (v := ?_) (fun _ _ _ h => h) ?_ rfl hHeld ?_; rotate_left; focus (intro w hS; have h2 := HSame.out w; go_simp; try with_reducible rfl)) | (refine held_skip 2 _ rfl (by kernel_rfl) (by kernel_rfl) (by kernel_rfl) (fun _ _ _ h => h) rfl hHeld ?_)
    show wpAnyH _ _ _ _ _ _ _ { tmps := _, defers := _ } _
    try simp only [Act.put, List.setIfInBounds_toArray, List.set_cons_zero, List.set_cons_succ]
    first | (refine held_take 3 _ rfl (by kernel_rfl) (by kernel_rfl) (by kernel_rfl) (v := ?_) (fun _ _ _ h => h) ?_ rfl hHeld ?_; rotate_left; focus (intro w hS; skip; go_simp; try with_reducible rfl)) | (refine held_skip 3 _ rfl (by kernel_rfl) (by kernel_rfl) (by kernel_rfl) (fun _ _ _ h => h) rfl hHeld ?_)
    show wpAnyH _ _ _ _ _ _ _ { tmps := _, defers := _ } _
    try simp only [Act.put, List.setIfInBounds_toArray, List.set_cons_zero, List.set_cons_succ]
    have HSame2 := Lib.hid (fun w => dig_same abcL rfl w)
    have HAbc := Lib.hid (fun w => abc_any w)
    unfold dig at HSame2 HAbc
    obtain ⟨Ab, hAb⟩ : ∃ Y, (Go.Lib.byteCells abcL).toArray = Y := ⟨_, rfl⟩
    rw [hAb] at HSame2 HAbc
    have HAb := Lib.hid hAb
    clear hAb
    have HSz0 : Hid (∀ w, S w → w.cell? ⟨G, 0, none⟩ = some (.int .u32 1779033703)) := Lib.hid (fun w h => by rw [cell_of_heap (HS1.out w h).2.1, ← HZ.out]; rfl)
    have HSz7 : Hid (∀ w, S w → w.cell? ⟨G, 7, none⟩ = some (.int .u32 1541459225)) := Lib.hid (fun w h => by rw [cell_of_heap (HS1.out w h).2.1, ← HZ.out]; rfl)
    refine held_next2 4 6 _ _ (by kernel_rfl) rfl rfl rfl rfl (fun K hK => ?_) (fun K hK => ?_)
    · go_simp
      obtain ⟨y1, hu⟩ : ∃ v, v = u3.alloc (.cells #[.int .u8 97] 5) := ⟨_, rfl⟩
      obtain ⟨Ba, hB⟩ : ∃ b, u3.heap.size = b := ⟨_, rfl⟩
      have HXA : Hid (y1.heap[Ba]? = some (.cells #[.int .u8 97] 5 (0, 0))) := Lib.hid (by rw [hu, ← hB]; exact heap_last _ _)
      have HQ : Below u3.heap.size u3 y1 := by rw [hu]; exact (Below.refl _ u3).alloc (Nat.le_refl _) _
      have HNA : Hid (Ba ≠ V ∧ Ba ≠ G ∧ W.heap.size ≤ Ba) := Lib.hid (by
        obtain ⟨h1, h2, h3⟩ := HS1.out u3 hHeld
        have l1 := (Array.getElem?_eq_some_iff.1 h1).1
        have l2 := (Array.getElem?_eq_some_iff.1 h2).1
        have l3 := h3.size
        omega)
      rw [← hu, hB]
      refine hK _ _ (HSb.out _ _ hHeld HQ) (fun hHeld => ?_)
      clear hK K hu hB HQ
      show wpAnyH _ _ _ _ _ _ _ { tmps := _, defers := _ } _
      try simp only [Act.put, List.setIfInBounds_toArray, List.set_cons_zero, List.set_cons_succ]
      refine held_next2 5 6 _ _ (by kernel_rfl) rfl rfl rfl rfl (fun K hK => ?_) (fun K hK => ?_)
      · obtain ⟨y2, hrun, ha, hoth, hsz, hbel⟩ := convert_mark y1 Ba #[.int .u8 97] 1 1 HXA.out
        go_simp
        replace HXA := Lib.hid ha
        have hS' : S y2 := HS0.out _ ((hoth V (by have := HNA.out; omega)).trans (HS1.out _ hHeld).1) ((hoth G (by have := HNA.out; omega)).trans (HS1.out _ hHeld).2.1) ((HS1.out _ hHeld).2.2.trans (hbel _ HNA.out.2.2))
        refine hK _ _ hS' (fun hHeld => ?_)
        clear hK K hrun ha hoth hsz hbel hS'
        show wpAnyH _ _ _ _ _ _ _ { tmps := _, defers := _ } _
        try simp only [Act.put, List.setIfInBounds_toArray, List.set_cons_zero, List.set_cons_succ]
        refine held_next 6 _ (by kernel_rfl) rfl rfl fun K hK => ?_
        go_simp
        obtain ⟨y3, hu⟩ : ∃ v, v = y2.alloc (.cells #[.int .u8 98, .int .u8 99] 5) := ⟨_, rfl⟩
        obtain ⟨Bb, hB⟩ : ∃ b, y2.heap.size = b := ⟨_, rfl⟩
        have HXB : Hid (y3.heap[Bb]? = some (.cells #[.int .u8 98, .int .u8 99] 5 (0, 0))) := Lib.hid (by rw [hu, ← hB]; exact heap_last _ _)
        have HQ : Below y2.heap.size y2 y3 := by rw [hu]; exact (Below.refl _ y2).alloc (Nat.le_refl _) _
        have HNB : Hid (Bb ≠ V ∧ Bb ≠ G ∧ W.heap.size ≤ Bb) := Lib.hid (by
          obtain ⟨h1, h2, h3⟩ := HS1.out y2 hHeld
          have l1 := (Array.getElem?_eq_some_iff.1 h1).1
          have l2 := (Array.getElem?_eq_some_iff.1 h2).1
          have l3 := h3.size
          omega)
        have HE : Hid (Ba ≠ Bb) := Lib.hid (by have := (Array.getElem?_eq_some_iff.1 HXA.out).1; omega)
        replace HXA := Lib.hid ((HQ.block Ba (Array.getElem?_eq_some_iff.1 HXA.out).1).trans HXA.out)
        rw [← hu, hB]
        refine hK _ _ (HSb.out _ _ hHeld HQ) (fun hHeld => ?_)
        clear hK K hu hB HQ
        show wpAnyH _ _ _ _ _ _ _ { tmps := _, defers := _ } _
        try simp only [Act.put, List.setIfInBounds_toArray, List.set_cons_zero, List.set_cons_succ]
        refine held_next 7 _ (by kernel_rfl) rfl rfl fun K hK => ?_
        obtain ⟨y4, hrun, ha, hoth, hsz, hbel⟩ := convert_mark y3 Bb #[.int .u8 98, .int .u8 99] 2 2 HXB.out
        go_simp
        replace HXB := Lib.hid ha
        replace HXA := Lib.hid ((hoth Ba (by have := HE.out; omega)).trans HXA.out)
        have hS' : S y4 := HS0.out _ ((hoth V (by have := HNB.out; omega)).trans (HS1.out _ hHeld).1) ((hoth G (by have := HNB.out; omega)).trans (HS1.out _ hHeld).2.1) ((HS1.out _ hHeld).2.2.trans (hbel _ HNB.out.2.2))
        refine hK _ _ hS' (fun hHeld => ?_)
        clear hK K hrun ha hoth hsz hbel hS'
        show wpAnyH _ _ _ _ _ _ _ { tmps := _, defers := _ } _
        try simp only [Act.put, List.setIfInBounds_toArray, List.set_cons_zero, List.set_cons_succ]
        refine held_next 8 _ (by kernel_rfl) rfl rfl fun K hK => ?_
        go_simp
        have HCall := Lib.hid (sum_abc3 W HT.out y4 (HS1.out _ hHeld).2.2 Ba Bb HXA.out HXB.out)
        unfold dig at HCall
        rw [HAb.out] at HCall
        have HQ8 : Hid (Below y4.heap.size y4 (y4.alloc (.cells #[.slice (some ⟨Ba, 0, none⟩) 1 1, .slice none 0 0, .slice (some ⟨Bb, 0, none⟩) 2 2] 29))) := Lib.hid ((Below.refl _ y4).alloc (Nat.le_refl _) _)
        have hHeldU := Lib.hid hHeld
        refine hK _ _ (HSb.out _ _ hHeld HQ8.out) (fun hHeld => ?_)
        clear hK K
        show wpAnyH _ _ _ _ _ _ _ { tmps := _, defers := _ } _
        try simp only [Act.put, List.setIfInBounds_toArray, List.set_cons_zero, List.set_cons_succ]
        refine held_next 9 _ (by kernel_rfl) rfl rfl fun K hK => ?_
        go_simp
        refine HCall.out.mono ?_
        rintro e z9 ⟨rfl, hb9⟩
        show K _ _
        refine hK _ _ (HSb.out _ _ hHeldU.out hb9) (fun hHeld => ?_)
        clear hK K hb9 HCall HQ8 hHeldU HXA HXB
        show wpAnyH _ _ _ _ _ _ _ { tmps := _, defers := _ } _
        try simp only [Act.put, List.setIfInBounds_toArray, List.set_cons_zero, List.set_cons_succ]
        refine held_next 10 _ (by kernel_rfl) rfl rfl fun K hK => ?_
        go_simp
        refine (HAbc.out _).mono ?_
        rintro e z10 ⟨rfl, hb10⟩
        show K _ _
        refine hK _ _ (HSb.out _ _ hHeld hb10) (fun hHeld => ?_)
        clear hK K hb10
        show wpAnyH _ _ _ _ _ _ _ { tmps := _, defers := _ } _
        try simp only [Act.put, List.setIfInBounds_toArray, List.set_cons_zero, List.set_cons_succ]
        first | (refine held_take 11 _ rfl (by kernel_rfl) (by kernel_rfl) (by kernel_rfl) (v := ?_) (fun _ _ _ h => h) ?_ rfl hHeld ?_; rotate_left; focus (intro w hS; have h11 := HSame2.out w; go_simp; try with_reducible rfl)) | (refine held_skip 11 _ rfl (by kernel_rfl) (by kernel_rfl) (by kernel_rfl) (fun _ _ _ h => h) rfl hHeld ?_)
        show wpAnyH _ _ _ _ _ _ _ { tmps := _, defers := _ } _
        try simp only [Act.put, List.setIfInBounds_toArray, List.set_cons_zero, List.set_cons_succ]
        first | (refine held_take 12 _ rfl (by kernel_rfl) (by kernel_rfl) (by kernel_rfl) (v := ?_) (fun _ _ _ h => h) ?_ rfl hHeld ?_; rotate_left; focus (intro w hS; skip; go_simp; try with_reducible rfl)) | (refine held_skip 12 _ rfl (by kernel_rfl) (by kernel_rfl) (by kernel_rfl) (fun _ _ _ h => h) rfl hHeld ?_)
        show wpAnyH _ _ _ _ _ _ _ { tmps := _, defers := _ } _
        try simp only [Act.put, List.setIfInBounds_toArray, List.set_cons_zero, List.set_cons_succ]
        first | (refine held_take 13 _ rfl (by kernel_rfl) (by kernel_rfl) (by kernel_rfl) (v := ?_) (fun _ _ _ h => h) ?_ rfl hHeld ?_; rotate_left; focus (intro w hS; skip; go_simp; try with_reducible rfl)) | (refine held_skip 13 _ rfl (by kernel_rfl) (by kernel_rfl) (by kernel_rfl) (fun _ _ _ h => h) rfl hHeld ?_)
        show wpAnyH _ _ _ _ _ _ _ { tmps := _, defers := _ } _
        try simp only [Act.put, List.setIfInBounds_toArray, List.set_cons_zero, List.set_cons_succ]
        first | (refine held_take 14 _ rfl (by kernel_rfl) (by kernel_rfl) (by kernel_rfl) (v := ?_) (fun _ _ _ h => h) ?_ rfl hHeld ?_; rotate_left; focus (intro w hS; skip; go_simp; try with_reducible rfl)) | (refine held_skip 14 _ rfl (by kernel_rfl) (by kernel_rfl) (by kernel_rfl) (fun _ _ _ h => h) rfl hHeld ?_)
        show wpAnyH _ _ _ _ _ _ _ { tmps := _, defers := _ } _
        try simp only [Act.put, List.setIfInBounds_toArray, List.set_cons_zero, List.set_cons_succ]
        first | (refine held_take 15 _ rfl (by kernel_rfl) (by kernel_rfl) (by kernel_rfl) (v := ?_) (fun _ _ _ h => h) ?_ rfl hHeld ?_; rotate_left; focus (intro w hS; have h15 := HSz0.out w hS; go_simp; try with_reducible rfl)) | (refine held_skip 15 _ rfl (by kernel_rfl) (by kernel_rfl) (by kernel_rfl) (fun _ _ _ h => h) rfl hHeld ?_)
        show wpAnyH _ _ _ _ _ _ _ { tmps := _, defers := _ } _
        try simp only [Act.put, List.setIfInBounds_toArray, List.set_cons_zero, List.set_cons_succ]
        first | (refine held_take 16 _ rfl (by kernel_rfl) (by kernel_rfl) (by kernel_rfl) (v := ?_) (fun _ _ _ h => h) ?_ rfl hHeld ?_; rotate_left; focus (intro w hS; skip; go_simp; try with_reducible rfl)) | (refine held_skip 16 _ rfl (by kernel_rfl) (by kernel_rfl) (by kernel_rfl) (fun _ _ _ h => h) rfl hHeld ?_)
        show wpAnyH _ _ _ _ _ _ _ { tmps := _, defers := _ } _
        try simp only [Act.put, List.setIfInBounds_toArray, List.set_cons_zero, List.set_cons_succ]
        first | (refine held_take 17 _ rfl (by kernel_rfl) (by kernel_rfl) (by kernel_rfl) (v := ?_) (fun _ _ _ h => h) ?_ rfl hHeld ?_; rotate_left; focus (intro w hS; skip; go_simp; try with_reducible rfl)) | (refine held_skip 17 _ rfl (by kernel_rfl) (by kernel_rfl) (by kernel_rfl) (fun _ _ _ h => h) rfl hHeld ?_)
        show wpAnyH _ _ _ _ _ _ _ { tmps := _, defers := _ } _
        try simp only [Act.put, List.setIfInBounds_toArray, List.set_cons_zero, List.set_cons_succ]
        first | (refine held_take 18 _ rfl (by kernel_rfl) (by kernel_rfl) (by kernel_rfl) (v := ?_) (fun _ _ _ h => h) ?_ rfl hHeld ?_; rotate_left; focus (intro w hS; skip; go_simp; try with_reducible rfl)) | (refine held_skip 18 _ rfl (by kernel_rfl) (by kernel_rfl) (by kernel_rfl) (fun _ _ _ h => h) rfl hHeld ?_)
        show wpAnyH _ _ _ _ _ _ _ { tmps := _, defers := _ } _
        try simp only [Act.put, List.setIfInBounds_toArray, List.set_cons_zero, List.set_cons_succ]
        first | (refine held_take 19 _ rfl (by kernel_rfl) (by kernel_rfl) (by kernel_rfl) (v := ?_) (fun _ _ _ h => h) ?_ rfl hHeld ?_; rotate_left; focus (intro w hS; skip; go_simp; try with_reducible rfl)) | (refine held_skip 19 _ rfl (by kernel_rfl) (by kernel_rfl) (by kernel_rfl) (fun _ _ _ h => h) rfl hHeld ?_)
        show wpAnyH _ _ _ _ _ _ _ { tmps := _, defers := _ } _
        try simp only [Act.put, List.setIfInBounds_toArray, List.set_cons_zero, List.set_cons_succ]
        first | (refine held_take 20 _ rfl (by kernel_rfl) (by kernel_rfl) (by kernel_rfl) (v := ?_) (fun _ _ _ h => h) ?_ rfl hHeld ?_; rotate_left; focus (intro w hS; have h20 := HSz7.out w hS; go_simp; try with_reducible rfl)) | (refine held_skip 20 _ rfl (by kernel_rfl) (by kernel_rfl) (by kernel_rfl) (fun _ _ _ h => h) rfl hHeld ?_)
        show wpAnyH _ _ _ _ _ _ _ { tmps := _, defers := _ } _
        try simp only [Act.put, List.setIfInBounds_toArray, List.set_cons_zero, List.set_cons_succ]
        first | (refine held_take 21 _ rfl (by kernel_rfl) (by kernel_rfl) (by kernel_rfl) (v := ?_) (fun _ _ _ h => h) ?_ rfl hHeld ?_; rotate_left; focus (intro w hS; skip; go_simp; try with_reducible rfl)) | (refine held_skip 21 _ rfl (by kernel_rfl) (by kernel_rfl) (by kernel_rfl) (fun _ _ _ h => h) rfl hHeld ?_)
        show wpAnyH _ _ _ _ _ _ _ { tmps := _, defers := _ } _
        try simp only [Act.put, List.setIfInBounds_toArray, List.set_cons_zero, List.set_cons_succ]
        first | (refine held_take 22 _ rfl (by kernel_rfl) (by kernel_rfl) (by kernel_rfl) (v := ?_) (fun _ _ _ h => h) ?_ rfl hHeld ?_; rotate_left; focus (intro w hS; skip; go_simp; try with_reducible rfl)) | (refine held_skip 22 _ rfl (by kernel_rfl) (by kernel_rfl) (by kernel_rfl) (fun _ _ _ h => h) rfl hHeld ?_)
        show wpAnyH _ _ _ _ _ _ _ { tmps := _, defers := _ } _
        try simp only [Act.put, List.setIfInBounds_toArray, List.set_cons_zero, List.set_cons_succ]
        refine wpAnyH_done (by kernel_rfl) ?_ _
        have hfin := Lib.hid (HS1.out _ hHeld).2.2
        clear hHeld
        go_wp2_with fail
        go_meet
        exact ⟨rfl, hfin⟩
      · go_simp
        obtain ⟨y5, hu⟩ : ∃ v, v = y1.alloc (.cells #[.int .u8 98, .int .u8 99] 5) := ⟨_, rfl⟩
        obtain ⟨Bb, hB⟩ : ∃ b, y1.heap.size = b := ⟨_, rfl⟩
        have HXB : Hid (y5.heap[Bb]? = some (.cells #[.int .u8 98, .int .u8 99] 5 (0, 0))) := Lib.hid (by rw [hu, ← hB]; exact heap_last _ _)
        have HQ : Below y1.heap.size y1 y5 := by rw [hu]; exact (Below.refl _ y1).alloc (Nat.le_refl _) _
        have HNB : Hid (Bb ≠ V ∧ Bb ≠ G ∧ W.heap.size ≤ Bb) := Lib.hid (by
          obtain ⟨h1, h2, h3⟩ := HS1.out y1 hHeld
          have l1 := (Array.getElem?_eq_some_iff.1 h1).1
          have l2 := (Array.getElem?_eq_some_iff.1 h2).1
          have l3 := h3.size
          omega)
        have HE : Hid (Ba ≠ Bb) := Lib.hid (by have := (Array.getElem?_eq_some_iff.1 HXA.out).1; omega)
        replace HXA := Lib.hid ((HQ.block Ba (Array.getElem?_eq_some_iff.1 HXA.out).1).trans HXA.out)
        rw [← hu, hB]
        refine hK _ _ (HSb.out _ _ hHeld HQ) (fun hHeld => ?_)
        clear hK K hu hB HQ
        show wpAnyH _ _ _ _ _ _ _ { tmps := _, defers := _ } _
        try simp only [Act.put, List.setIfInBounds_toArray, List.set_cons_zero, List.set_cons_succ]
        refine held_next2 5 7 _ _ (by kernel_rfl) rfl rfl rfl rfl (fun K hK => ?_) (fun K hK => ?_)
        · obtain ⟨y6, hrun, ha, hoth, hsz, hbel⟩ := convert_mark y5 Ba #[.int .u8 97] 1 1 HXA.out
          go_simp
          replace HXA := Lib.hid ha
          replace HXB := Lib.hid ((hoth Bb (by have := HE.out; omega)).trans HXB.out)
          have hS' : S y6 := HS0.out _ ((hoth V (by have := HNA.out; omega)).trans (HS1.out _ hHeld).1) ((hoth G (by have := HNA.out; omega)).trans (HS1.out _ hHeld).2.1) ((HS1.out _ hHeld).2.2.trans (hbel _ HNA.out.2.2))
          refine hK _ _ hS' (fun hHeld => ?_)
          clear hK K hrun ha hoth hsz hbel hS'
          show wpAnyH _ _ _ _ _ _ _ { tmps := _, defers := _ } _
          try simp only [Act.put, List.setIfInBounds_toArray, List.set_cons_zero, List.set_cons_succ]
          refine held_next 7 _ (by kernel_rfl) rfl rfl fun K hK => ?_
          obtain ⟨y7, hrun, ha, hoth, hsz, hbel⟩ := convert_mark y6 Bb #[.int .u8 98, .int .u8 99] 2 2 HXB.out
          go_simp
          replace HXB := Lib.hid ha
          replace HXA := Lib.hid ((hoth Ba (by have := HE.out; omega)).trans HXA.out)
          have hS' : S y7 := HS0.out _ ((hoth V (by have := HNB.out; omega)).trans (HS1.out _ hHeld).1) ((hoth G (by have := HNB.out; omega)).trans (HS1.out _ hHeld).2.1) ((HS1.out _ hHeld).2.2.trans (hbel _ HNB.out.2.2))
          refine hK _ _ hS' (fun hHeld => ?_)
          clear hK K hrun ha hoth hsz hbel hS'
          show wpAnyH _ _ _ _ _ _ _ { tmps := _, defers := _ } _
          try simp only [Act.put, List.setIfInBounds_toArray, List.set_cons_zero, List.set_cons_succ]
          refine held_next 8 _ (by kernel_rfl) rfl rfl fun K hK => ?_
          go_simp
          have HCall := Lib.hid (sum_abc3 W HT.out y7 (HS1.out _ hHeld).2.2 Ba Bb HXA.out HXB.out)
          unfold dig at HCall
          rw [HAb.out] at HCall
          have HQ8 : Hid (Below y7.heap.size y7 (y7.alloc (.cells #[.slice (some ⟨Ba, 0, none⟩) 1 1, .slice none 0 0, .slice (some ⟨Bb, 0, none⟩) 2 2] 29))) := Lib.hid ((Below.refl _ y7).alloc (Nat.le_refl _) _)
          have hHeldU := Lib.hid hHeld
          refine hK _ _ (HSb.out _ _ hHeld HQ8.out) (fun hHeld => ?_)
          clear hK K
          show wpAnyH _ _ _ _ _ _ _ { tmps := _, defers := _ } _
          try simp only [Act.put, List.setIfInBounds_toArray, List.set_cons_zero, List.set_cons_succ]
          refine held_next 9 _ (by kernel_rfl) rfl rfl fun K hK => ?_
          go_simp
          refine HCall.out.mono ?_
          rintro e z9 ⟨rfl, hb9⟩
          show K _ _
          refine hK _ _ (HSb.out _ _ hHeldU.out hb9) (fun hHeld => ?_)
          clear hK K hb9 HCall HQ8 hHeldU HXA HXB
          show wpAnyH _ _ _ _ _ _ _ { tmps := _, defers := _ } _
          try simp only [Act.put, List.setIfInBounds_toArray, List.set_cons_zero, List.set_cons_succ]
          refine held_next 10 _ (by kernel_rfl) rfl rfl fun K hK => ?_
          go_simp
          refine (HAbc.out _).mono ?_
          rintro e z10 ⟨rfl, hb10⟩
          show K _ _
          refine hK _ _ (HSb.out _ _ hHeld hb10) (fun hHeld => ?_)
          clear hK K hb10
          show wpAnyH _ _ _ _ _ _ _ { tmps := _, defers := _ } _
          try simp only [Act.put, List.setIfInBounds_toArray, List.set_cons_zero, List.set_cons_succ]
          first | (refine held_take 11 _ rfl (by kernel_rfl) (by kernel_rfl) (by kernel_rfl) (v := ?_) (fun _ _ _ h => h) ?_ rfl hHeld ?_; rotate_left; focus (intro w hS; have h11 := HSame2.out w; go_simp; try with_reducible rfl)) | (refine held_skip 11 _ rfl (by kernel_rfl) (by kernel_rfl) (by kernel_rfl) (fun _ _ _ h => h) rfl hHeld ?_)
          show wpAnyH _ _ _ _ _ _ _ { tmps := _, defers := _ } _
          try simp only [Act.put, List.setIfInBounds_toArray, List.set_cons_zero, List.set_cons_succ]
          first | (refine held_take 12 _ rfl (by kernel_rfl) (by kernel_rfl) (by kernel_rfl) (v := ?_) (fun _ _ _ h => h) ?_ rfl hHeld ?_; rotate_left; focus (intro w hS; skip; go_simp; try with_reducible rfl)) | (refine held_skip 12 _ rfl (by kernel_rfl) (by kernel_rfl) (by kernel_rfl) (fun _ _ _ h => h) rfl hHeld ?_)
          show wpAnyH _ _ _ _ _ _ _ { tmps := _, defers := _ } _
          try simp only [Act.put, List.setIfInBounds_toArray, List.set_cons_zero, List.set_cons_succ]
          first | (refine held_take 13 _ rfl (by kernel_rfl) (by kernel_rfl) (by kernel_rfl) (v := ?_) (fun _ _ _ h => h) ?_ rfl hHeld ?_; rotate_left; focus (intro w hS; skip; go_simp; try with_reducible rfl)) | (refine held_skip 13 _ rfl (by kernel_rfl) (by kernel_rfl) (by kernel_rfl) (fun _ _ _ h => h) rfl hHeld ?_)
          show wpAnyH _ _ _ _ _ _ _ { tmps := _, defers := _ } _
          try simp only [Act.put, List.setIfInBounds_toArray, List.set_cons_zero, List.set_cons_succ]
          first | (refine held_take 14 _ rfl (by kernel_rfl) (by kernel_rfl) (by kernel_rfl) (v := ?_) (fun _ _ _ h => h) ?_ rfl hHeld ?_; rotate_left; focus (intro w hS; skip; go_simp; try with_reducible rfl)) | (refine held_skip 14 _ rfl (by kernel_rfl) (by kernel_rfl) (by kernel_rfl) (fun _ _ _ h => h) rfl hHeld ?_)
          show wpAnyH _ _ _ _ _ _ _ { tmps := _, defers := _ } _
          try simp only [Act.put, List.setIfInBounds_toArray, List.set_cons_zero, List.set_cons_succ]
          first | (refine held_take 15 _ rfl (by kernel_rfl) (by kernel_rfl) (by kernel_rfl) (v := ?_) (fun _ _ _ h => h) ?_ rfl hHeld ?_; rotate_left; focus (intro w hS; have h15 := HSz0.out w hS; go_simp; try with_reducible rfl)) | (refine held_skip 15 _ rfl (by kernel_rfl) (by kernel_rfl) (by kernel_rfl) (fun _ _ _ h => h) rfl hHeld ?_)
          show wpAnyH _ _ _ _ _ _ _ { tmps := _, defers := _ } _
          try simp only [Act.put, List.setIfInBounds_toArray, List.set_cons_zero, List.set_cons_succ]
          first | (refine held_take 16 _ rfl (by kernel_rfl) (by kernel_rfl) (by kernel_rfl) (v := ?_) (fun _ _ _ h => h) ?_ rfl hHeld ?_; rotate_left; focus (intro w hS; skip; go_simp; try with_reducible rfl)) | (refine held_skip 16 _ rfl (by kernel_rfl) (by kernel_rfl) (by kernel_rfl) (fun _ _ _ h => h) rfl hHeld ?_)
          show wpAnyH _ _ _ _ _ _ _ { tmps := _, defers := _ } _
          try simp only [Act.put, List.setIfInBounds_toArray, List.set_cons_zero, List.set_cons_succ]
          first | (refine held_take 17 _ rfl (by kernel_rfl) (by kernel_rfl) (by kernel_rfl) (v := ?_) (fun _ _ _ h => h) ?_ rfl hHeld ?_; rotate_left; focus (intro w hS; skip; go_simp; try with_reducible rfl)) | (refine held_skip 17 _ rfl (by kernel_rfl) (by kernel_rfl) (by kernel_rfl) (fun _ _ _ h => h) rfl hHeld ?_)
          show wpAnyH _ _ _ _ _ _ _ { tmps := _, defers := _ } _
          try simp only [Act.put, List.setIfInBounds_toArray, List.set_cons_zero, List.set_cons_succ]
          first | (refine held_take 18 _ rfl (by kernel_rfl) (by kernel_rfl) (by kernel_rfl) (v := ?_) (fun _ _ _ h => h) ?_ rfl hHeld ?_; rotate_left; focus (intro w hS; skip; go_simp; try with_reducible rfl)) | (refine held_skip 18 _ rfl (by kernel_rfl) (by kernel_rfl) (by kernel_rfl) (fun _ _ _ h => h) rfl hHeld ?_)
          show wpAnyH _ _ _ _ _ _ _ { tmps := _, defers := _ } _
          try simp only [Act.put, List.setIfInBounds_toArray, List.set_cons_zero, List.set_cons_succ]
          first | (refine held_take 19 _ rfl (by kernel_rfl) (by kernel_rfl) (by kernel_rfl) (v := ?_) (fun _ _ _ h => h) ?_ rfl hHeld ?_; rotate_left; focus (intro w hS; skip; go_simp; try with_reducible rfl)) | (refine held_skip 19 _ rfl (by kernel_rfl) (by kernel_rfl) (by kernel_rfl) (fun _ _ _ h => h) rfl hHeld ?_)
          show wpAnyH _ _ _ _ _ _ _ { tmps := _, defers := _ } _
          try simp only [Act.put, List.setIfInBounds_toArray, List.set_cons_zero, List.set_cons_succ]
          first | (refine held_take 20 _ rfl (by kernel_rfl) (by kernel_rfl) (by kernel_rfl) (v := ?_) (fun _ _ _ h => h) ?_ rfl hHeld ?_; rotate_left; focus (intro w hS; have h20 := HSz7.out w hS; go_simp; try with_reducible rfl)) | (refine held_skip 20 _ rfl (by kernel_rfl) (by kernel_rfl) (by kernel_rfl) (fun _ _ _ h => h) rfl hHeld ?_)
          show wpAnyH _ _ _ _ _ _ _ { tmps := _, defers := _ } _
          try simp only [Act.put, List.setIfInBounds_toArray, List.set_cons_zero, List.set_cons_succ]
          first | (refine held_take 21 _ rfl (by kernel_rfl) (by kernel_rfl) (by kernel_rfl) (v := ?_) (fun _ _ _ h => h) ?_ rfl hHeld ?_; rotate_left; focus (intro w hS; skip; go_simp; try with_reducible rfl)) | (refine held_skip 21 _ rfl (by kernel_rfl) (by kernel_rfl) (by kernel_rfl) (fun _ _ _ h => h) rfl hHeld ?_)
          show wpAnyH _ _ _ _ _ _ _ { tmps := _, defers := _ } _
          try simp only [Act.put, List.setIfInBounds_toArray, List.set_cons_zero, List.set_cons_succ]
          first | (refine held_take 22 _ rfl (by kernel_rfl) (by kernel_rfl) (by kernel_rfl) (v := ?_) (fun _ _ _ h => h) ?_ rfl hHeld ?_; rotate_left; focus (intro w hS; skip; go_simp; try with_reducible rfl)) | (refine held_skip 22 _ rfl (by kernel_rfl) (by kernel_rfl) (by kernel_rfl) (fun _ _ _ h => h) rfl hHeld ?_)
          show wpAnyH _ _ _ _ _ _ _ { tmps := _, defers := _ } _
          try simp only [Act.put, List.setIfInBounds_toArray, List.set_cons_zero, List.set_cons_succ]
          refine wpAnyH_done (by kernel_rfl) ?_ _
          have hfin := Lib.hid (HS1.out _ hHeld).2.2
          clear hHeld
          go_wp2_with fail
          go_meet
          exact ⟨rfl, hfin⟩
        · obtain ⟨y8, hrun, ha, hoth, hsz, hbel⟩ := convert_mark y5 Bb #[.int .u8 98, .int .u8 99] 2 2 HXB.out
          go_simp
          replace HXB := Lib.hid ha
          replace HXA := Lib.hid ((hoth Ba (by have := HE.out; omega)).trans HXA.out)
          have hS' : S y8 := HS0.out _ ((hoth V (by have := HNB.out; omega)).trans (HS1.out _ hHeld).1) ((hoth G (by have := HNB.out; omega)).trans (HS1.out _ hHeld).2.1) ((HS1.out _ hHeld).2.2.trans (hbel _ HNB.out.2.2))
          refine hK _ _ hS' (fun hHeld => ?_)
          clear hK K hrun ha hoth hsz hbel hS'
          show wpAnyH _ _ _ _ _ _ _ { tmps := _, defers := _ } _
          try simp only [Act.put, List.setIfInBounds_toArray, List.set_cons_zero, List.set_cons_succ]
          refine held_next 5 _ (by kernel_rfl) rfl rfl fun K hK => ?_
          obtain ⟨y9, hrun, ha, hoth, hsz, hbel⟩ := convert_mark y8 Ba #[.int .u8 97] 1 1 HXA.out
          go_simp
          replace HXA := Lib.hid ha
          replace HXB := Lib.hid ((hoth Bb (by have := HE.out; omega)).trans HXB.out)
          have hS' : S y9 := HS0.out _ ((hoth V (by have := HNA.out; omega)).trans (HS1.out _ hHeld).1) ((hoth G (by have := HNA.out; omega)).trans (HS1.out _ hHeld).2.1) ((HS1.out _ hHeld).2.2.trans (hbel _ HNA.out.2.2))
          refine hK _ _ hS' (fun hHeld => ?_)
          clear hK K hrun ha hoth hsz hbel hS'
          show wpAnyH _ _ _ _ _ _ _ { tmps := _, defers := _ } _
          try simp only [Act.put, List.setIfInBounds_toArray, List.set_cons_zero, List.set_cons_succ]
          refine held_next 8 _ (by kernel_rfl) rfl rfl fun K hK => ?_
          go_simp
          have HCall := Lib.hid (sum_abc3 W HT.out y9 (HS1.out _ hHeld).2.2 Ba Bb HXA.out HXB.out)
          unfold dig at HCall
          rw [HAb.out] at HCall
          have HQ8 : Hid (Below y9.heap.size y9 (y9.alloc (.cells #[.slice (some ⟨Ba, 0, none⟩) 1 1, .slice none 0 0, .slice (some ⟨Bb, 0, none⟩) 2 2] 29))) := Lib.hid ((Below.refl _ y9).alloc (Nat.le_refl _) _)
          have hHeldU := Lib.hid hHeld
          refine hK _ _ (HSb.out _ _ hHeld HQ8.out) (fun hHeld => ?_)
          clear hK K
          show wpAnyH _ _ _ _ _ _ _ { tmps := _, defers := _ } _
          try simp only [Act.put, List.setIfInBounds_toArray, List.set_cons_zero, List.set_cons_succ]
          refine held_next 9 _ (by kernel_rfl) rfl rfl fun K hK => ?_
          go_simp
          refine HCall.out.mono ?_
          rintro e z9 ⟨rfl, hb9⟩
          show K _ _
          refine hK _ _ (HSb.out _ _ hHeldU.out hb9) (fun hHeld => ?_)
          clear hK K hb9 HCall HQ8 hHeldU HXA HXB
          show wpAnyH _ _ _ _ _ _ _ { tmps := _, defers := _ } _
          try simp only [Act.put, List.setIfInBounds_toArray, List.set_cons_zero, List.set_cons_succ]
          refine held_next 10 _ (by kernel_rfl) rfl rfl fun K hK => ?_
          go_simp
          refine (HAbc.out _).mono ?_
          rintro e z10 ⟨rfl, hb10⟩
          show K _ _
          refine hK _ _ (HSb.out _ _ hHeld hb10) (fun hHeld => ?_)
          clear hK K hb10
          show wpAnyH _ _ _ _ _ _ _ { tmps := _, defers := _ } _
          try simp only [Act.put, List.setIfInBounds_toArray, List.set_cons_zero, List.set_cons_succ]
          first | (refine held_take 11 _ rfl (by kernel_rfl) (by kernel_rfl) (by kernel_rfl) (v := ?_) (fun _ _ _ h => h) ?_ rfl hHeld ?_; rotate_left; focus (intro w hS; have h11 := HSame2.out w; go_simp; try with_reducible rfl)) | (refine held_skip 11 _ rfl (by kernel_rfl) (by kernel_rfl) (by kernel_rfl) (fun _ _ _ h => h) rfl hHeld ?_)
          show wpAnyH _ _ _ _ _ _ _ { tmps := _, defers := _ } _
          try simp only [Act.put, List.setIfInBounds_toArray, List.set_cons_zero, List.set_cons_succ]
          first | (refine held_take 12 _ rfl (by kernel_rfl) (by kernel_rfl) (by kernel_rfl) (v := ?_) (fun _ _ _ h => h) ?_ rfl hHeld ?_; rotate_left; focus (intro w hS; skip; go_simp; try with_reducible rfl)) | (refine held_skip 12 _ rfl (by kernel_rfl) (by kernel_rfl) (by kernel_rfl) (fun _ _ _ h => h) rfl hHeld ?_)
          show wpAnyH _ _ _ _ _ _ _ { tmps := _, defers := _ } _
          try simp only [Act.put, List.setIfInBounds_toArray, List.set_cons_zero, List.set_cons_succ]
          first | (refine held_take 13 _ rfl (by kernel_rfl) (by kernel_rfl) (by kernel_rfl) (v := ?_) (fun _ _ _ h => h) ?_ rfl hHeld ?_; rotate_left; focus (intro w hS; skip; go_simp; try with_reducible rfl)) | (refine held_skip 13 _ rfl (by kernel_rfl) (by kernel_rfl) (by kernel_rfl) (fun _ _ _ h => h) rfl hHeld ?_)
          show wpAnyH _ _ _ _ _ _ _ { tmps := _, defers := _ } _
          try simp only [Act.put, List.setIfInBounds_toArray, List.set_cons_zero, List.set_cons_succ]
          first | (refine held_take 14 _ rfl (by kernel_rfl) (by kernel_rfl) (by kernel_rfl) (v := ?_) (fun _ _ _ h => h) ?_ rfl hHeld ?_; rotate_left; focus (intro w hS; skip; go_simp; try with_reducible rfl)) | (refine held_skip 14 _ rfl (by kernel_rfl) (by kernel_rfl) (by kernel_rfl) (fun _ _ _ h => h) rfl hHeld ?_)
          show wpAnyH _ _ _ _ _ _ _ { tmps := _, defers := _ } _
          try simp only [Act.put, List.setIfInBounds_toArray, List.set_cons_zero, List.set_cons_succ]
          first | (refine held_take 15 _ rfl (by kernel_rfl) (by kernel_rfl) (by kernel_rfl) (v := ?_) (fun _ _ _ h => h) ?_ rfl hHeld ?_; rotate_left; focus (intro w hS; have h15 := HSz0.out w hS; go_simp; try with_reducible rfl)) | (refine held_skip 15 _ rfl (by kernel_rfl) (by kernel_rfl) (by kernel_rfl) (fun _ _ _ h => h) rfl hHeld ?_)
          show wpAnyH _ _ _ _ _ _ _ { tmps := _, defers := _ } _
          try simp only [Act.put, List.setIfInBounds_toArray, List.set_cons_zero, List.set_cons_succ]
          first | (refine held_take 16 _ rfl (by kernel_rfl) (by kernel_rfl) (by kernel_rfl) (v := ?_) (fun _ _ _ h => h) ?_ rfl hHeld ?_; rotate_left; focus (intro w hS; skip; go_simp; try with_reducible rfl)) | (refine held_skip 16 _ rfl (by kernel_rfl) (by kernel_rfl) (by kernel_rfl) (fun _ _ _ h => h) rfl hHeld ?_)
          show wpAnyH _ _ _ _ _ _ _ { tmps := _, defers := _ } _
          try simp only [Act.put, List.setIfInBounds_toArray, List.set_cons_zero, List.set_cons_succ]
          first | (refine held_take 17 _ rfl (by kernel_rfl) (by kernel_rfl) (by kernel_rfl) (v := ?_) (fun _ _ _ h => h) ?_ rfl hHeld ?_; rotate_left; focus (intro w hS; skip; go_simp; try with_reducible rfl)) | (refine held_skip 17 _ rfl (by kernel_rfl) (by kernel_rfl) (by kernel_rfl) (fun _ _ _ h => h) rfl hHeld ?_)
          show wpAnyH _ _ _ _ _ _ _ { tmps := _, defers := _ } _
          try simp only [Act.put, List.setIfInBounds_toArray, List.set_cons_zero, List.set_cons_succ]
          first | (refine held_take 18 _ rfl (by kernel_rfl) (by kernel_rfl) (by kernel_rfl) (v := ?_) (fun _ _ _ h => h) ?_ rfl hHeld ?_; rotate_left; focus (intro w hS; skip; go_simp; try with_reducible rfl)) | (refine held_skip 18 _ rfl (by kernel_rfl) (by kernel_rfl) (by kernel_rfl) (fun _ _ _ h => h) rfl hHeld ?_)
          show wpAnyH _ _ _ _ _ _ _ { tmps := _, defers := _ } _
          try simp only [Act.put, List.setIfInBounds_toArray, List.set_cons_zero, List.set_cons_succ]
          first | (refine held_take 19 _ rfl (by kernel_rfl) (by kernel_rfl) (by kernel_rfl) (v := ?_) (fun _ _ _ h => h) ?_ rfl hHeld ?_; rotate_left; focus (intro w hS; skip; go_simp; try with_reducible rfl)) | (refine held_skip 19 _ rfl (by kernel_rfl) (by kernel_rfl) (by kernel_rfl) (fun _ _ _ h => h) rfl hHeld ?_)
          show wpAnyH _ _ _ _ _ _ _ { tmps := _, defers := _ } _
          try simp only [Act.put, List.setIfInBounds_toArray, List.set_cons_zero, List.set_cons_succ]
          first | (refine held_take 20 _ rfl (by kernel_rfl) (by kernel_rfl) (by kernel_rfl) (v := ?_) (fun _ _ _ h => h) ?_ rfl hHeld ?_; rotate_left; focus (intro w hS; have h20 := HSz7.out w hS; go_simp; try with_reducible rfl)) | (refine held_skip 20 _ rfl (by kernel_rfl) (by kernel_rfl) (by kernel_rfl) (fun _ _ _ h => h) rfl hHeld ?_)
          show wpAnyH _ _ _ _ _ _ _ { tmps := _, defers := _ } _
          try simp only [Act.put, List.setIfInBounds_toArray, List.set_cons_zero, List.set_cons_succ]
          first | (refine held_take 21 _ rfl (by kernel_rfl) (by kernel_rfl) (by kernel_rfl) (v := ?_) (fun _ _ _ h => h) ?_ rfl hHeld ?_; rotate_left; focus (intro w hS; skip; go_simp; try with_reducible rfl)) | (refine held_skip 21 _ rfl (by kernel_rfl) (by kernel_rfl) (by kernel_rfl) (fun _ _ _ h => h) rfl hHeld ?_)
          show wpAnyH _ _ _ _ _ _ _ { tmps := _, defers := _ } _
          try simp only [Act.put, List.setIfInBounds_toArray, List.set_cons_zero, List.set_cons_succ]
          first | (refine held_take 22 _ rfl (by kernel_rfl) (by kernel_rfl) (by kernel_rfl) (v := ?_) (fun _ _ _ h => h) ?_ rfl hHeld ?_; rotate_left; focus (intro w hS; skip; go_simp; try with_reducible rfl)) | (refine held_skip 22 _ rfl (by kernel_rfl) (by kernel_rfl) (by kernel_rfl) (fun _ _ _ h => h) rfl hHeld ?_)
          show wpAnyH _ _ _ _ _ _ _ { tmps := _, defers := _ } _
          try simp only [Act.put, List.setIfInBounds_toArray, List.set_cons_zero, List.set_cons_succ]
          refine wpAnyH_done (by kernel_rfl) ?_ _
          have hfin := Lib.hid (HS1.out _ hHeld).2.2
          clear hHeld
          go_wp2_with fail
          go_meet
          exact ⟨rfl, hfin⟩
    · go_simp
      obtain ⟨y10, hu⟩ : ∃ v, v = u3.alloc (.cells #[.int .u8 98, .int .u8 99] 5) := ⟨_, rfl⟩
      obtain ⟨Bb, hB⟩ : ∃ b, u3.heap.size = b := ⟨_, rfl⟩
      have HXB : Hid (y10.heap[Bb]? = some (.cells #[.int .u8 98, .int .u8 99] 5 (0, 0))) := Lib.hid (by rw [hu, ← hB]; exact heap_last _ _)
      have HQ : Below u3.heap.size u3 y10 := by rw [hu]; exact (Below.refl _ u3).alloc (Nat.le_refl _) _
      have HNB : Hid (Bb ≠ V ∧ Bb ≠ G ∧ W.heap.size ≤ Bb) := Lib.hid (by
        obtain ⟨h1, h2, h3⟩ := HS1.out u3 hHeld
        have l1 := (Array.getElem?_eq_some_iff.1 h1).1
        have l2 := (Array.getElem?_eq_some_iff.1 h2).1
        have l3 := h3.size
        omega)
      rw [← hu, hB]
      refine hK _ _ (HSb.out _ _ hHeld HQ) (fun hHeld => ?_)
      clear hK K hu hB HQ
      show wpAnyH _ _ _ _ _ _ _ { tmps := _, defers := _ } _
      try simp only [Act.put, List.setIfInBounds_toArray, List.set_cons_zero, List.set_cons_succ]
      refine held_next2 4 7 _ _ (by kernel_rfl) rfl rfl rfl rfl (fun K hK => ?_) (fun K hK => ?_)
      · go_simp
        obtain ⟨y11, hu⟩ : ∃ v, v = y10.alloc (.cells #[.int .u8 97] 5) := ⟨_, rfl⟩
        obtain ⟨Ba, hB⟩ : ∃ b, y10.heap.size = b := ⟨_, rfl⟩
        have HXA : Hid (y11.heap[Ba]? = some (.cells #[.int .u8 97] 5 (0, 0))) := Lib.hid (by rw [hu, ← hB]; exact heap_last _ _)
        have HQ : Below y10.heap.size y10 y11 := by rw [hu]; exact (Below.refl _ y10).alloc (Nat.le_refl _) _
        have HNA : Hid (Ba ≠ V ∧ Ba ≠ G ∧ W.heap.size ≤ Ba) := Lib.hid (by
          obtain ⟨h1, h2, h3⟩ := HS1.out y10 hHeld
          have l1 := (Array.getElem?_eq_some_iff.1 h1).1
          have l2 := (Array.getElem?_eq_some_iff.1 h2).1
          have l3 := h3.size
          omega)
        have HE : Hid (Ba ≠ Bb) := Lib.hid (by have := (Array.getElem?_eq_some_iff.1 HXB.out).1; omega)
        replace HXB := Lib.hid ((HQ.block Bb (Array.getElem?_eq_some_iff.1 HXB.out).1).trans HXB.out)
        rw [← hu, hB]
        refine hK _ _ (HSb.out _ _ hHeld HQ) (fun hHeld => ?_)
        clear hK K hu hB HQ
        show wpAnyH _ _ _ _ _ _ _ { tmps := _, defers := _ } _
        try simp only [Act.put, List.setIfInBounds_toArray, List.set_cons_zero, List.set_cons_succ]
        refine held_next2 5 7 _ _ (by kernel_rfl) rfl rfl rfl rfl (fun K hK => ?_) (fun K hK => ?_)
        · obtain ⟨y12, hrun, ha, hoth, hsz, hbel⟩ := convert_mark y11 Ba #[.int .u8 97] 1 1 HXA.out
          go_simp
          replace HXA := Lib.hid ha
          replace HXB := Lib.hid ((hoth Bb (by have := HE.out; omega)).trans HXB.out)
          have hS' : S y12 := HS0.out _ ((hoth V (by have := HNA.out; omega)).trans (HS1.out _ hHeld).1) ((hoth G (by have := HNA.out; omega)).trans (HS1.out _ hHeld).2.1) ((HS1.out _ hHeld).2.2.trans (hbel _ HNA.out.2.2))
          refine hK _ _ hS' (fun hHeld => ?_)
          clear hK K hrun ha hoth hsz hbel hS'
          show wpAnyH _ _ _ _ _ _ _ { tmps := _, defers := _ } _
          try simp only [Act.put, List.setIfInBounds_toArray, List.set_cons_zero, List.set_cons_succ]
          refine held_next 7 _ (by kernel_rfl) rfl rfl fun K hK => ?_
          obtain ⟨y13, hrun, ha, hoth, hsz, hbel⟩ := convert_mark y12 Bb #[.int .u8 98, .int .u8 99] 2 2 HXB.out
          go_simp
          replace HXB := Lib.hid ha
          replace HXA := Lib.hid ((hoth Ba (by have := HE.out; omega)).trans HXA.out)
          have hS' : S y13 := HS0.out _ ((hoth V (by have := HNB.out; omega)).trans (HS1.out _ hHeld).1) ((hoth G (by have := HNB.out; omega)).trans (HS1.out _ hHeld).2.1) ((HS1.out _ hHeld).2.2.trans (hbel _ HNB.out.2.2))
          refine hK _ _ hS' (fun hHeld => ?_)
          clear hK K hrun ha hoth hsz hbel hS'
          show wpAnyH _ _ _ _ _ _ _ { tmps := _, defers := _ } _
          try simp only [Act.put, List.setIfInBounds_toArray, List.set_cons_zero, List.set_cons_succ]
          refine held_next 8 _ (by kernel_rfl) rfl rfl fun K hK => ?_
          go_simp
          have HCall := Lib.hid (sum_abc3 W HT.out y13 (HS1.out _ hHeld).2.2 Ba Bb HXA.out HXB.out)
          unfold dig at HCall
          rw [HAb.out] at HCall
          have HQ8 : Hid (Below y13.heap.size y13 (y13.alloc (.cells #[.slice (some ⟨Ba, 0, none⟩) 1 1, .slice none 0 0, .slice (some ⟨Bb, 0, none⟩) 2 2] 29))) := Lib.hid ((Below.refl _ y13).alloc (Nat.le_refl _) _)
          have hHeldU := Lib.hid hHeld
          refine hK _ _ (HSb.out _ _ hHeld HQ8.out) (fun hHeld => ?_)
          clear hK K
          show wpAnyH _ _ _ _ _ _ _ { tmps := _, defers := _ } _
          try simp only [Act.put, List.setIfInBounds_toArray, List.set_cons_zero, List.set_cons_succ]
          refine held_next 9 _ (by kernel_rfl) rfl rfl fun K hK => ?_
          go_simp
          refine HCall.out.mono ?_
          rintro e z9 ⟨rfl, hb9⟩
          show K _ _
          refine hK _ _ (HSb.out _ _ hHeldU.out hb9) (fun hHeld => ?_)
          clear hK K hb9 HCall HQ8 hHeldU HXA HXB
          show wpAnyH _ _ _ _ _ _ _ { tmps := _, defers := _ } _
          try simp only [Act.put, List.setIfInBounds_toArray, List.set_cons_zero, List.set_cons_succ]
          refine held_next 10 _ (by kernel_rfl) rfl rfl fun K hK => ?_
          go_simp
          refine (HAbc.out _).mono ?_
          rintro e z10 ⟨rfl, hb10⟩
          show K _ _
          refine hK _ _ (HSb.out _ _ hHeld hb10) (fun hHeld => ?_)
          clear hK K hb10
          show wpAnyH _ _ _ _ _ _ _ { tmps := _, defers := _ } _
          try simp only [Act.put, List.setIfInBounds_toArray, List.set_cons_zero, List.set_cons_succ]
          first | (refine held_take 11 _ rfl (by kernel_rfl) (by kernel_rfl) (by kernel_rfl) (v := ?_) (fun _ _ _ h => h) ?_ rfl hHeld ?_; rotate_left; focus (intro w hS; have h11 := HSame2.out w; go_simp; try with_reducible rfl)) | (refine held_skip 11 _ rfl (by kernel_rfl) (by kernel_rfl) (by kernel_rfl) (fun _ _ _ h => h) rfl hHeld ?_)
          show wpAnyH _ _ _ _ _ _ _ { tmps := _, defers := _ } _
          try simp only [Act.put, List.setIfInBounds_toArray, List.set_cons_zero, List.set_cons_succ]
          first | (refine held_take 12 _ rfl (by kernel_rfl) (by kernel_rfl) (by kernel_rfl) (v := ?_) (fun _ _ _ h => h) ?_ rfl hHeld ?_; rotate_left; focus (intro w hS; skip; go_simp; try with_reducible rfl)) | (refine held_skip 12 _ rfl (by kernel_rfl) (by kernel_rfl) (by kernel_rfl) (fun _ _ _ h => h) rfl hHeld ?_)
          show wpAnyH _ _ _ _ _ _ _ { tmps := _, defers := _ } _
          try simp only [Act.put, List.setIfInBounds_toArray, List.set_cons_zero, List.set_cons_succ]
          first | (refine held_take 13 _ rfl (by kernel_rfl) (by kernel_rfl) (by kernel_rfl) (v := ?_) (fun _ _ _ h => h) ?_ rfl hHeld ?_; rotate_left; focus (intro w hS; skip; go_simp; try with_reducible rfl)) | (refine held_skip 13 _ rfl (by kernel_rfl) (by kernel_rfl) (by kernel_rfl) (fun _ _ _ h => h) rfl hHeld ?_)
          show wpAnyH _ _ _ _ _ _ _ { tmps := _, defers := _ } _
          try simp only [Act.put, List.setIfInBounds_toArray, List.set_cons_zero, List.set_cons_succ]
          first | (refine held_take 14 _ rfl (by kernel_rfl) (by kernel_rfl) (by kernel_rfl) (v := ?_) (fun _ _ _ h => h) ?_ rfl hHeld ?_; rotate_left; focus (intro w hS; skip; go_simp; try with_reducible rfl)) | (refine held_skip 14 _ rfl (by kernel_rfl) (by kernel_rfl) (by kernel_rfl) (fun _ _ _ h => h) rfl hHeld ?_)
          show wpAnyH _ _ _ _ _ _ _ { tmps := _, defers := _ } _
          try simp only [Act.put, List.setIfInBounds_toArray, List.set_cons_zero, List.set_cons_succ]
          first | (refine held_take 15 _ rfl (by kernel_rfl) (by kernel_rfl) (by kernel_rfl) (v := ?_) (fun _ _ _ h => h) ?_ rfl hHeld ?_; rotate_left; focus (intro w hS; have h15 := HSz0.out w hS; go_simp; try with_reducible rfl)) | (refine held_skip 15 _ rfl (by kernel_rfl) (by kernel_rfl) (by kernel_rfl) (fun _ _ _ h => h) rfl hHeld ?_)
          show wpAnyH _ _ _ _ _ _ _ { tmps := _, defers := _ } _
          try simp only [Act.put, List.setIfInBounds_toArray, List.set_cons_zero, List.set_cons_succ]
          first | (refine held_take 16 _ rfl (by kernel_rfl) (by kernel_rfl) (by kernel_rfl) (v := ?_) (fun _ _ _ h => h) ?_ rfl hHeld ?_; rotate_left; focus (intro w hS; skip; go_simp; try with_reducible rfl)) | (refine held_skip 16 _ rfl (by kernel_rfl) (by kernel_rfl) (by kernel_rfl) (fun _ _ _ h => h) rfl hHeld ?_)
          show wpAnyH _ _ _ _ _ _ _ { tmps := _, defers := _ } _
          try simp only [Act.put, List.setIfInBounds_toArray, List.set_cons_zero, List.set_cons_succ]
          first | (refine held_take 17 _ rfl (by kernel_rfl) (by kernel_rfl) (by kernel_rfl) (v := ?_) (fun _ _ _ h => h) ?_ rfl hHeld ?_; rotate_left; focus (intro w hS; skip; go_simp; try with_reducible rfl)) | (refine held_skip 17 _ rfl (by kernel_rfl) (by kernel_rfl) (by kernel_rfl) (fun _ _ _ h => h) rfl hHeld ?_)
          show wpAnyH _ _ _ _ _ _ _ { tmps := _, defers := _ } _
          try simp only [Act.put, List.setIfInBounds_toArray, List.set_cons_zero, List.set_cons_succ]
          first | (refine held_take 18 _ rfl (by kernel_rfl) (by kernel_rfl) (by kernel_rfl) (v := ?_) (fun _ _ _ h => h) ?_ rfl hHeld ?_; rotate_left; focus (intro w hS; skip; go_simp; try with_reducible rfl)) | (refine held_skip 18 _ rfl (by kernel_rfl) (by kernel_rfl) (by kernel_rfl) (fun _ _ _ h => h) rfl hHeld ?_)
          show wpAnyH _ _ _ _ _ _ _ { tmps := _, defers := _ } _
          try simp only [Act.put, List.setIfInBounds_toArray, List.set_cons_zero, List.set_cons_succ]
          first | (refine held_take 19 _ rfl (by kernel_rfl) (by kernel_rfl) (by kernel_rfl) (v := ?_) (fun _ _ _ h => h) ?_ rfl hHeld ?_; rotate_left; focus (intro w hS; skip; go_simp; try with_reducible rfl)) | (refine held_skip 19 _ rfl (by kernel_rfl) (by kernel_rfl) (by kernel_rfl) (fun _ _ _ h => h) rfl hHeld ?_)
          show wpAnyH _ _ _ _ _ _ _ { tmps := _, defers := _ } _
          try simp only [Act.put, List.setIfInBounds_toArray, List.set_cons_zero, List.set_cons_succ]
          first | (refine held_take 20 _ rfl (by kernel_rfl) (by kernel_rfl) (by kernel_rfl) (v := ?_) (fun _ _ _ h => h) ?_ rfl hHeld ?_; rotate_left; focus (intro w hS; have h20 := HSz7.out w hS; go_simp; try with_reducible rfl)) | (refine held_skip 20 _ rfl (by kernel_rfl) (by kernel_rfl) (by kernel_rfl) (fun _ _ _ h => h) rfl hHeld ?_)
          show wpAnyH _ _ _ _ _ _ _ { tmps := _, defers := _ } _
          try simp only [Act.put, List.setIfInBounds_toArray, List.set_cons_zero, List.set_cons_succ]
          first | (refine held_take 21 _ rfl (by kernel_rfl) (by kernel_rfl) (by kernel_rfl) (v := ?_) (fun _ _ _ h => h) ?_ rfl hHeld ?_; rotate_left; focus (intro w hS; skip; go_simp; try with_reducible rfl)) | (refine held_skip 21 _ rfl (by kernel_rfl) (by kernel_rfl) (by kernel_rfl) (fun _ _ _ h => h) rfl hHeld ?_)
          show wpAnyH _ _ _ _ _ _ _ { tmps := _, defers := _ } _
          try simp only [Act.put, List.setIfInBounds_toArray, List.set_cons_zero, List.set_cons_succ]
          first | (refine held_take 22 _ rfl (by kernel_rfl) (by kernel_rfl) (by kernel_rfl) (v := ?_) (fun _ _ _ h => h) ?_ rfl hHeld ?_; rotate_left; focus (intro w hS; skip; go_simp; try with_reducible rfl)) | (refine held_skip 22 _ rfl (by kernel_rfl) (by kernel_rfl) (by kernel_rfl) (fun _ _ _ h => h) rfl hHeld ?_)
          show wpAnyH _ _ _ _ _ _ _ { tmps := _, defers := _ } _
          try simp only [Act.put, List.setIfInBounds_toArray, List.set_cons_zero, List.set_cons_succ]
          refine wpAnyH_done (by kernel_rfl) ?_ _
          have hfin := Lib.hid (HS1.out _ hHeld).2.2
          clear hHeld
          go_wp2_with fail
          go_meet
          exact ⟨rfl, hfin⟩
        · obtain ⟨y14, hrun, ha, hoth, hsz, hbel⟩ := convert_mark y11 Bb #[.int .u8 98, .int .u8 99] 2 2 HXB.out
          go_simp
          replace HXB := Lib.hid ha
          replace HXA := Lib.hid ((hoth Ba (by have := HE.out; omega)).trans HXA.out)
          have hS' : S y14 := HS0.out _ ((hoth V (by have := HNB.out; omega)).trans (HS1.out _ hHeld).1) ((hoth G (by have := HNB.out; omega)).trans (HS1.out _ hHeld).2.1) ((HS1.out _ hHeld).2.2.trans (hbel _ HNB.out.2.2))
          refine hK _ _ hS' (fun hHeld => ?_)
          clear hK K hrun ha hoth hsz hbel hS'
          show wpAnyH _ _ _ _ _ _ _ { tmps := _, defers := _ } _
          try simp only [Act.put, List.setIfInBounds_toArray, List.set_cons_zero, List.set_cons_succ]
          refine held_next 5 _ (by kernel_rfl) rfl rfl fun K hK => ?_
          obtain ⟨y15, hrun, ha, hoth, hsz, hbel⟩ := convert_mark y14 Ba #[.int .u8 97] 1 1 HXA.out
          go_simp
          replace HXA := Lib.hid ha
          replace HXB := Lib.hid ((hoth Bb (by have := HE.out; omega)).trans HXB.out)
          have hS' : S y15 := HS0.out _ ((hoth V (by have := HNA.out; omega)).trans (HS1.out _ hHeld).1) ((hoth G (by have := HNA.out; omega)).trans (HS1.out _ hHeld).2.1) ((HS1.out _ hHeld).2.2.trans (hbel _ HNA.out.2.2))
          refine hK _ _ hS' (fun hHeld => ?_)
          clear hK K hrun ha hoth hsz hbel hS'
          show wpAnyH _ _ _ _ _ _ _ { tmps := _, defers := _ } _
          try simp only [Act.put, List.setIfInBounds_toArray, List.set_cons_zero, List.set_cons_succ]
          refine held_next 8 _ (by kernel_rfl) rfl rfl fun K hK => ?_
          go_simp
          have HCall := Lib.hid (sum_abc3 W HT.out y15 (HS1.out _ hHeld).2.2 Ba Bb HXA.out HXB.out)
          unfold dig at HCall
          rw [HAb.out] at HCall
          have HQ8 : Hid (Below y15.heap.size y15 (y15.alloc (.cells #[.slice (some ⟨Ba, 0, none⟩) 1 1, .slice none 0 0, .slice (some ⟨Bb, 0, none⟩) 2 2] 29))) := Lib.hid ((Below.refl _ y15).alloc (Nat.le_refl _) _)
          have hHeldU := Lib.hid hHeld
          refine hK _ _ (HSb.out _ _ hHeld HQ8.out) (fun hHeld => ?_)
          clear hK K
          show wpAnyH _ _ _ _ _ _ _ { tmps := _, defers := _ } _
          try simp only [Act.put, List.setIfInBounds_toArray, List.set_cons_zero, List.set_cons_succ]
          refine held_next 9 _ (by kernel_rfl) rfl rfl fun K hK => ?_
          go_simp
          refine HCall.out.mono ?_
          rintro e z9 ⟨rfl, hb9⟩
          show K _ _
          refine hK _ _ (HSb.out _ _ hHeldU.out hb9) (fun hHeld => ?_)
          clear hK K hb9 HCall HQ8 hHeldU HXA HXB
          show wpAnyH _ _ _ _ _ _ _ { tmps := _, defers := _ } _
          try simp only [Act.put, List.setIfInBounds_toArray, List.set_cons_zero, List.set_cons_succ]
          refine held_next 10 _ (by kernel_rfl) rfl rfl fun K hK => ?_
          go_simp
          refine (HAbc.out _).mono ?_
          rintro e z10 ⟨rfl, hb10⟩
          show K _ _
          refine hK _ _ (HSb.out _ _ hHeld hb10) (fun hHeld => ?_)
          clear hK K hb10
          show wpAnyH _ _ _ _ _ _ _ { tmps := _, defers := _ } _
          try simp only [Act.put, List.setIfInBounds_toArray, List.set_cons_zero, List.set_cons_succ]
          first | (refine held_take 11 _ rfl (by kernel_rfl) (by kernel_rfl) (by kernel_rfl) (v := ?_) (fun _ _ _ h => h) ?_ rfl hHeld ?_; rotate_left; focus (intro w hS; have h11 := HSame2.out w; go_simp; try with_reducible rfl)) | (refine held_skip 11 _ rfl (by kernel_rfl) (by kernel_rfl) (by kernel_rfl) (fun _ _ _ h => h) rfl hHeld ?_)
          show wpAnyH _ _ _ _ _ _ _ { tmps := _, defers := _ } _
          try simp only [Act.put, List.setIfInBounds_toArray, List.set_cons_zero, List.set_cons_succ]
          first | (refine held_take 12 _ rfl (by kernel_rfl) (by kernel_rfl) (by kernel_rfl) (v := ?_) (fun _ _ _ h => h) ?_ rfl hHeld ?_; rotate_left; focus (intro w hS; skip; go_simp; try with_reducible rfl)) | (refine held_skip 12 _ rfl (by kernel_rfl) (by kernel_rfl) (by kernel_rfl) (fun _ _ _ h => h) rfl hHeld ?_)
          show wpAnyH _ _ _ _ _ _ _ { tmps := _, defers := _ } _
          try simp only [Act.put, List.setIfInBounds_toArray, List.set_cons_zero, List.set_cons_succ]
          first | (refine held_take 13 _ rfl (by kernel_rfl) (by kernel_rfl) (by kernel_rfl) (v := ?_) (fun _ _ _ h => h) ?_ rfl hHeld ?_; rotate_left; focus (intro w hS; skip; go_simp; try with_reducible rfl)) | (refine held_skip 13 _ rfl (by kernel_rfl) (by kernel_rfl) (by kernel_rfl) (fun _ _ _ h => h) rfl hHeld ?_)
          show wpAnyH _ _ _ _ _ _ _ { tmps := _, defers := _ } _
          try simp only [Act.put, List.setIfInBounds_toArray, List.set_cons_zero, List.set_cons_succ]
          first | (refine held_take 14 _ rfl (by kernel_rfl) (by kernel_rfl) (by kernel_rfl) (v := ?_) (fun _ _ _ h => h) ?_ rfl hHeld ?_; rotate_left; focus (intro w hS; skip; go_simp; try with_reducible rfl)) | (refine held_skip 14 _ rfl (by kernel_rfl) (by kernel_rfl) (by kernel_rfl) (fun _ _ _ h => h) rfl hHeld ?_)
          show wpAnyH _ _ _ _ _ _ _ { tmps := _, defers := _ } _
          try simp only [Act.put, List.setIfInBounds_toArray, List.set_cons_zero, List.set_cons_succ]
          first | (refine held_take 15 _ rfl (by kernel_rfl) (by kernel_rfl) (by kernel_rfl) (v := ?_) (fun _ _ _ h => h) ?_ rfl hHeld ?_; rotate_left; focus (intro w hS; have h15 := HSz0.out w hS; go_simp; try with_reducible rfl)) | (refine held_skip 15 _ rfl (by kernel_rfl) (by kernel_rfl) (by kernel_rfl) (fun _ _ _ h => h) rfl hHeld ?_)
          show wpAnyH _ _ _ _ _ _ _ { tmps := _, defers := _ } _
          try simp only [Act.put, List.setIfInBounds_toArray, List.set_cons_zero, List.set_cons_succ]
          first | (refine held_take 16 _ rfl (by kernel_rfl) (by kernel_rfl) (by kernel_rfl) (v := ?_) (fun _ _ _ h => h) ?_ rfl hHeld ?_; rotate_left; focus (intro w hS; skip; go_simp; try with_reducible rfl)) | (refine held_skip 16 _ rfl (by kernel_rfl) (by kernel_rfl) (by kernel_rfl) (fun _ _ _ h => h) rfl hHeld ?_)
          show wpAnyH _ _ _ _ _ _ _ { tmps := _, defers := _ } _
          try simp only [Act.put, List.setIfInBounds_toArray, List.set_cons_zero, List.set_cons_succ]
          first | (refine held_take 17 _ rfl (by kernel_rfl) (by kernel_rfl) (by kernel_rfl) (v := ?_) (fun _ _ _ h => h) ?_ rfl hHeld ?_; rotate_left; focus (intro w hS; skip; go_simp; try with_reducible rfl)) | (refine held_skip 17 _ rfl (by kernel_rfl) (by kernel_rfl) (by kernel_rfl) (fun _ _ _ h => h) rfl hHeld ?_)
          show wpAnyH _ _ _ _ _ _ _ { tmps := _, defers := _ } _
          try simp only [Act.put, List.setIfInBounds_toArray, List.set_cons_zero, List.set_cons_succ]
          first | (refine held_take 18 _ rfl (by kernel_rfl) (by kernel_rfl) (by kernel_rfl) (v := ?_) (fun _ _ _ h => h) ?_ rfl hHeld ?_; rotate_left; focus (intro w hS; skip; go_simp; try with_reducible rfl)) | (refine held_skip 18 _ rfl (by kernel_rfl) (by kernel_rfl) (by kernel_rfl) (fun _ _ _ h => h) rfl hHeld ?_)
          show wpAnyH _ _ _ _ _ _ _ { tmps := _, defers := _ } _
          try simp only [Act.put, List.setIfInBounds_toArray, List.set_cons_zero, List.set_cons_succ]
          first | (refine held_take 19 _ rfl (by kernel_rfl) (by kernel_rfl) (by kernel_rfl) (v := ?_) (fun _ _ _ h => h) ?_ rfl hHeld ?_; rotate_left; focus (intro w hS; skip; go_simp; try with_reducible rfl)) | (refine held_skip 19 _ rfl (by kernel_rfl) (by kernel_rfl) (by kernel_rfl) (fun _ _ _ h => h) rfl hHeld ?_)
          show wpAnyH _ _ _ _ _ _ _ { tmps := _, defers := _ } _
          try simp only [Act.put, List.setIfInBounds_toArray, List.set_cons_zero, List.set_cons_succ]
          first | (refine held_take 20 _ rfl (by kernel_rfl) (by kernel_rfl) (by kernel_rfl) (v := ?_) (fun _ _ _ h => h) ?_ rfl hHeld ?_; rotate_left; focus (intro w hS; have h20 := HSz7.out w hS; go_simp; try with_reducible rfl)) | (refine held_skip 20 _ rfl (by kernel_rfl) (by kernel_rfl) (by kernel_rfl) (fun _ _ _ h => h) rfl hHeld ?_)
          show wpAnyH _ _ _ _ _ _ _ { tmps := _, defers := _ } _
          try simp only [Act.put, List.setIfInBounds_toArray, List.set_cons_zero, List.set_cons_succ]
          first | (refine held_take 21 _ rfl (by kernel_rfl) (by kernel_rfl) (by kernel_rfl) (v := ?_) (fun _ _ _ h => h) ?_ rfl hHeld ?_; rotate_left; focus (intro w hS; skip; go_simp; try with_reducible rfl)) | (refine held_skip 21 _ rfl (by kernel_rfl) (by kernel_rfl) (by kernel_rfl) (fun _ _ _ h => h) rfl hHeld ?_)
          show wpAnyH _ _ _ _ _ _ _ { tmps := _, defers := _ } _
          try simp only [Act.put, List.setIfInBounds_toArray, List.set_cons_zero, List.set_cons_succ]
          first | (refine held_take 22 _ rfl (by kernel_rfl) (by kernel_rfl) (by kernel_rfl) (v := ?_) (fun _ _ _ h => h) ?_ rfl hHeld ?_; rotate_left; focus (intro w hS; skip; go_simp; try with_reducible rfl)) | (refine held_skip 22 _ rfl (by kernel_rfl) (by kernel_rfl) (by kernel_rfl) (fun _ _ _ h => h) rfl hHeld ?_)
          show wpAnyH _ _ _ _ _ _ _ { tmps := _, defers := _ } _
          try simp only [Act.put, List.setIfInBounds_toArray, List.set_cons_zero, List.set_cons_succ]
          refine wpAnyH_done (by kernel_rfl) ?_ _
          have hfin := Lib.hid (HS1.out _ hHeld).2.2
          clear hHeld
          go_wp2_with fail
          go_meet
          exact ⟨rfl, hfin⟩
      · obtain ⟨y16, hrun, ha, hoth, hsz, hbel⟩ := convert_mark y10 Bb #[.int .u8 98, .int .u8 99] 2 2 HXB.out
        go_simp
        replace HXB := Lib.hid ha
        have hS' : S y16 := HS0.out _ ((hoth V (by have := HNB.out; omega)).trans (HS1.out _ hHeld).1) ((hoth G (by have := HNB.out; omega)).trans (HS1.out _ hHeld).2.1) ((HS1.out _ hHeld).2.2.trans (hbel _ HNB.out.2.2))
        refine hK _ _ hS' (fun hHeld => ?_)
        clear hK K hrun ha hoth hsz hbel hS'
        show wpAnyH _ _ _ _ _ _ _ { tmps := _, defers := _ } _
        try simp only [Act.put, List.setIfInBounds_toArray, List.set_cons_zero, List.set_cons_succ]
        refine held_next 4 _ (by kernel_rfl) rfl rfl fun K hK => ?_
        go_simp
        obtain ⟨y17, hu⟩ : ∃ v, v = y16.alloc (.cells #[.int .u8 97] 5) := ⟨_, rfl⟩
        obtain ⟨Ba, hB⟩ : ∃ b, y16.heap.size = b := ⟨_, rfl⟩
        have HXA : Hid (y17.heap[Ba]? = some (.cells #[.int .u8 97] 5 (0, 0))) := Lib.hid (by rw [hu, ← hB]; exact heap_last _ _)
        have HQ : Below y16.heap.size y16 y17 := by rw [hu]; exact (Below.refl _ y16).alloc (Nat.le_refl _) _
        have HNA : Hid (Ba ≠ V ∧ Ba ≠ G ∧ W.heap.size ≤ Ba) := Lib.hid (by
          obtain ⟨h1, h2, h3⟩ := HS1.out y16 hHeld
          have l1 := (Array.getElem?_eq_some_iff.1 h1).1
          have l2 := (Array.getElem?_eq_some_iff.1 h2).1
          have l3 := h3.size
          omega)
        have HE : Hid (Ba ≠ Bb) := Lib.hid (by have := (Array.getElem?_eq_some_iff.1 HXB.out).1; omega)
        replace HXB := Lib.hid ((HQ.block Bb (Array.getElem?_eq_some_iff.1 HXB.out).1).trans HXB.out)
        rw [← hu, hB]
        refine hK _ _ (HSb.out _ _ hHeld HQ) (fun hHeld => ?_)
        clear hK K hu hB HQ
        show wpAnyH _ _ _ _ _ _ _ { tmps := _, defers := _ } _
        try simp only [Act.put, List.setIfInBounds_toArray, List.set_cons_zero, List.set_cons_succ]
        refine held_next 5 _ (by kernel_rfl) rfl rfl fun K hK => ?_
        obtain ⟨y18, hrun, ha, hoth, hsz, hbel⟩ := convert_mark y17 Ba #[.int .u8 97] 1 1 HXA.out
        go_simp
        replace HXA := Lib.hid ha
        replace HXB := Lib.hid ((hoth Bb (by have := HE.out; omega)).trans HXB.out)
        have hS' : S y18 := HS0.out _ ((hoth V (by have := HNA.out; omega)).trans (HS1.out _ hHeld).1) ((hoth G (by have := HNA.out; omega)).trans (HS1.out _ hHeld).2.1) ((HS1.out _ hHeld).2.2.trans (hbel _ HNA.out.2.2))
        refine hK _ _ hS' (fun hHeld => ?_)
        clear hK K hrun ha hoth hsz hbel hS'
        show wpAnyH _ _ _ _ _ _ _ { tmps := _, defers := _ } _
        try simp only [Act.put, List.setIfInBounds_toArray, List.set_cons_zero, List.set_cons_succ]
        refine held_next 8 _ (by kernel_rfl) rfl rfl fun K hK => ?_
        go_simp
        have HCall := Lib.hid (sum_abc3 W HT.out y18 (HS1.out _ hHeld).2.2 Ba Bb HXA.out HXB.out)
        unfold dig at HCall
        rw [HAb.out] at HCall
        have HQ8 : Hid (Below y18.heap.size y18 (y18.alloc (.cells #[.slice (some ⟨Ba, 0, none⟩) 1 1, .slice none 0 0, .slice (some ⟨Bb, 0, none⟩) 2 2] 29))) := Lib.hid ((Below.refl _ y18).alloc (Nat.le_refl _) _)
        have hHeldU := Lib.hid hHeld
        refine hK _ _ (HSb.out _ _ hHeld HQ8.out) (fun hHeld => ?_)
        clear hK K
        show wpAnyH _ _ _ _ _ _ _ { tmps := _, defers := _ } _
        try simp only [Act.put, List.setIfInBounds_toArray, List.set_cons_zero, List.set_cons_succ]
        refine held_next 9 _ (by kernel_rfl) rfl rfl fun K hK => ?_
        go_simp
        refine HCall.out.mono ?_
        rintro e z9 ⟨rfl, hb9⟩
        show K _ _
        refine hK _ _ (HSb.out _ _ hHeldU.out hb9) (fun hHeld => ?_)
        clear hK K hb9 HCall HQ8 hHeldU HXA HXB
        show wpAnyH _ _ _ _ _ _ _ { tmps := _, defers := _ } _
        try simp only [Act.put, List.setIfInBounds_toArray, List.set_cons_zero, List.set_cons_succ]
        refine held_next 10 _ (by kernel_rfl) rfl rfl fun K hK => ?_
        go_simp
        refine (HAbc.out _).mono ?_
        rintro e z10 ⟨rfl, hb10⟩
        show K _ _
        refine hK _ _ (HSb.out _ _ hHeld hb10) (fun hHeld => ?_)
        clear hK K hb10
        show wpAnyH _ _ _ _ _ _ _ { tmps := _, defers := _ } _
        try simp only [Act.put, List.setIfInBounds_toArray, List.set_cons_zero, List.set_cons_succ]
        first | (refine held_take 11 _ rfl (by kernel_rfl) (by kernel_rfl) (by kernel_rfl) (v := ?_) (fun _ _ _ h => h) ?_ rfl hHeld ?_; rotate_left; focus (intro w hS; have h11 := HSame2.out w; go_simp; try with_reducible rfl)) | (refine held_skip 11 _ rfl (by kernel_rfl) (by kernel_rfl) (by kernel_rfl) (fun _ _ _ h => h) rfl hHeld ?_)
        show wpAnyH _ _ _ _ _ _ _ { tmps := _, defers := _ } _
        try simp only [Act.put, List.setIfInBounds_toArray, List.set_cons_zero, List.set_cons_succ]
        first | (refine held_take 12 _ rfl (by kernel_rfl) (by kernel_rfl) (by kernel_rfl) (v := ?_) (fun _ _ _ h => h) ?_ rfl hHeld ?_; rotate_left; focus (intro w hS; skip; go_simp; try with_reducible rfl)) | (refine held_skip 12 _ rfl (by kernel_rfl) (by kernel_rfl) (by kernel_rfl) (fun _ _ _ h => h) rfl hHeld ?_)
        show wpAnyH _ _ _ _ _ _ _ { tmps := _, defers := _ } _
        try simp only [Act.put, List.setIfInBounds_toArray, List.set_cons_zero, List.set_cons_succ]
        first | (refine held_take 13 _ rfl (by kernel_rfl) (by kernel_rfl) (by kernel_rfl) (v := ?_) (fun _ _ _ h => h) ?_ rfl hHeld ?_; rotate_left; focus (intro w hS; skip; go_simp; try with_reducible rfl)) | (refine held_skip 13 _ rfl (by kernel_rfl) (by kernel_rfl) (by kernel_rfl) (fun _ _ _ h => h) rfl hHeld ?_)
        show wpAnyH _ _ _ _ _ _ _ { tmps := _, defers := _ } _
        try simp only [Act.put, List.setIfInBounds_toArray, List.set_cons_zero, List.set_cons_succ]
        first | (refine held_take 14 _ rfl (by kernel_rfl) (by kernel_rfl) (by kernel_rfl) (v := ?_) (fun _ _ _ h => h) ?_ rfl hHeld ?_; rotate_left; focus (intro w hS; skip; go_simp; try with_reducible rfl)) | (refine held_skip 14 _ rfl (by kernel_rfl) (by kernel_rfl) (by kernel_rfl) (fun _ _ _ h => h) rfl hHeld ?_)
        show wpAnyH _ _ _ _ _ _ _ { tmps := _, defers := _ } _
        try simp only [Act.put, List.setIfInBounds_toArray, List.set_cons_zero, List.set_cons_succ]
        first | (refine held_take 15 _ rfl (by kernel_rfl) (by kernel_rfl) (by kernel_rfl) (v := ?_) (fun _ _ _ h => h) ?_ rfl hHeld ?_; rotate_left; focus (intro w hS; have h15 := HSz0.out w hS; go_simp; try with_reducible rfl)) | (refine held_skip 15 _ rfl (by kernel_rfl) (by kernel_rfl) (by kernel_rfl) (fun _ _ _ h => h) rfl hHeld ?_)
        show wpAnyH _ _ _ _ _ _ _ { tmps := _, defers := _ } _
        try simp only [Act.put, List.setIfInBounds_toArray, List.set_cons_zero, List.set_cons_succ]
        first | (refine held_take 16 _ rfl (by kernel_rfl) (by kernel_rfl) (by kernel_rfl) (v := ?_) (fun _ _ _ h => h) ?_ rfl hHeld ?_; rotate_left; focus (intro w hS; skip; go_simp; try with_reducible rfl)) | (refine held_skip 16 _ rfl (by kernel_rfl) (by kernel_rfl) (by kernel_rfl) (fun _ _ _ h => h) rfl hHeld ?_)
        show wpAnyH _ _ _ _ _ _ _ { tmps := _, defers := _ } _
        try simp only [Act.put, List.setIfInBounds_toArray, List.set_cons_zero, List.set_cons_succ]
        first | (refine held_take 17 _ rfl (by kernel_rfl) (by kernel_rfl) (by kernel_rfl) (v := ?_) (fun _ _ _ h => h) ?_ rfl hHeld ?_; rotate_left; focus (intro w hS; skip; go_simp; try with_reducible rfl)) | (refine held_skip 17 _ rfl (by kernel_rfl) (by kernel_rfl) (by kernel_rfl) (fun _ _ _ h => h) rfl hHeld ?_)
        show wpAnyH _ _ _ _ _ _ _ { tmps := _, defers := _ } _
        try simp only [Act.put, List.setIfInBounds_toArray, List.set_cons_zero, List.set_cons_succ]
        first | (refine held_take 18 _ rfl (by kernel_rfl) (by kernel_rfl) (by kernel_rfl) (v := ?_) (fun _ _ _ h => h) ?_ rfl hHeld ?_; rotate_left; focus (intro w hS; skip; go_simp; try with_reducible rfl)) | (refine held_skip 18 _ rfl (by kernel_rfl) (by kernel_rfl) (by kernel_rfl) (fun _ _ _ h => h) rfl hHeld ?_)
        show wpAnyH _ _ _ _ _ _ _ { tmps := _, defers := _ } _
        try simp only [Act.put, List.setIfInBounds_toArray, List.set_cons_zero, List.set_cons_succ]
        first | (refine held_take 19 _ rfl (by kernel_rfl) (by kernel_rfl) (by kernel_rfl) (v := ?_) (fun _ _ _ h => h) ?_ rfl hHeld ?_; rotate_left; focus (intro w hS; skip; go_simp; try with_reducible rfl)) | (refine held_skip 19 _ rfl (by kernel_rfl) (by kernel_rfl) (by kernel_rfl) (fun _ _ _ h => h) rfl hHeld ?_)
        show wpAnyH _ _ _ _ _ _ _ { tmps := _, defers := _ } _
        try simp only [Act.put, List.setIfInBounds_toArray, List.set_cons_zero, List.set_cons_succ]
        first | (refine held_take 20 _ rfl (by kernel_rfl) (by kernel_rfl) (by kernel_rfl) (v := ?_) (fun _ _ _ h => h) ?_ rfl hHeld ?_; rotate_left; focus (intro w hS; have h20 := HSz7.out w hS; go_simp; try with_reducible rfl)) | (refine held_skip 20 _ rfl (by kernel_rfl) (by kernel_rfl) (by kernel_rfl) (fun _ _ _ h => h) rfl hHeld ?_)
        show wpAnyH _ _ _ _ _ _ _ { tmps := _, defers := _ } _
        try simp only [Act.put, List.setIfInBounds_toArray, List.set_cons_zero, List.set_cons_succ]
        first | (refine held_take 21 _ rfl (by kernel_rfl) (by kernel_rfl) (by kernel_rfl) (v := ?_) (fun _ _ _ h => h) ?_ rfl hHeld ?_; rotate_left; focus (intro w hS; skip; go_simp; try with_reducible rfl)) | (refine held_skip 21 _ rfl (by kernel_rfl) (by kernel_rfl) (by kernel_rfl) (fun _ _ _ h => h) rfl hHeld ?_)
        show wpAnyH _ _ _ _ _ _ _ { tmps := _, defers := _ } _
        try simp only [Act.put, List.setIfInBounds_toArray, List.set_cons_zero, List.set_cons_succ]
        first | (refine held_take 22 _ rfl (by kernel_rfl) (by kernel_rfl) (by kernel_rfl) (v := ?_) (fun _ _ _ h => h) ?_ rfl hHeld ?_; rotate_left; focus (intro w hS; skip; go_simp; try with_reducible rfl)) | (refine held_skip 22 _ rfl (by kernel_rfl) (by kernel_rfl) (by kernel_rfl) (fun _ _ _ h => h) rfl hHeld ?_)
        show wpAnyH _ _ _ _ _ _ _ { tmps := _, defers := _ } _
        try simp only [Act.put, List.setIfInBounds_toArray, List.set_cons_zero, List.set_cons_succ]
        refine wpAnyH_done (by kernel_rfl) ?_ _
        have hfin := Lib.hid (HS1.out _ hHeld).2.2
        clear hHeld
        go_wp2_with fail
        go_meet
        exact ⟨rfl, hfin⟩
  case rest =>
    obtain ⟨rfl, hg⟩ := hcut
    clear HV1 HV2 HGv1 HGv2 HRy HRz HT1 HT2 HG1 HG2 HS1 HYi HYo HYs HZi HZo HZs HFirst HGl
    have HP3 := Lib.hid (fun w => pad_long 2305843009213693952 (by decide) w)
    have HW1 := Lib.hid (fun v w => write_nil v w)
    have HNu := Lib.hid (fun n hn w => number_some n hn w)
    go_wp2_with fail
    refine (pad0 wc).mono ?_
    rintro e z1 ⟨rfl, hc0, hl0, hb1⟩
    have HA := Lib.hid hc0
    have HGz1 := Lib.hid (hg.out.trans (hb1.mono hg.out.size))
    obtain ⟨A, hA⟩ : ∃ A, wc.heap.size = A := ⟨_, rfl⟩
    rw [hA] at hl0 HA ⊢
    have HAl := Lib.hid hl0
    clear hc0 hl0 hb1 hA
    go_wp2_with fail
    refine (pad55 z1).mono ?_
    rintro e z2 ⟨rfl, hc7, hc8, hl0, hb2⟩
    have HB7 := Lib.hid hc7
    have HB8 := Lib.hid hc8
    have HGz2 := Lib.hid (HGz1.out.trans (hb2.mono HGz1.out.size))
    have HA2 := Lib.hid ((hb2.cell (p := ⟨A, 0, none⟩) HAl.out).trans HA.out)
    have HAl2 : Hid (A < z2.heap.size) := Lib.hid (by have := HAl.out; have := hb2.size; omega)
    obtain ⟨B, hB⟩ : ∃ B, z1.heap.size = B := ⟨_, rfl⟩
    rw [hB] at hl0 HB7 HB8 ⊢
    have HBl := Lib.hid hl0
    clear hc7 hc8 hl0 hb2 hB HA HAl
    go_wp2_with fail
    refine (pad56 z2).mono ?_
    rintro e z3 ⟨rfl, hb3⟩
    have HGz3 := Lib.hid (HGz2.out.trans (hb3.mono HGz2.out.size))
    have HA3 := Lib.hid ((hb3.cell (p := ⟨A, 0, none⟩) HAl2.out).trans HA2.out)
    have HB73 := Lib.hid ((hb3.cell (p := ⟨B, 7, none⟩) HBl.out).trans HB7.out)
    have HB83 := Lib.hid ((hb3.cell (p := ⟨B, 8, none⟩) HBl.out).trans HB8.out)
    clear hb3 HA2 HB7 HB8 HAl2 HBl
    go_wp2_with fail
    refine (HP3.out z3).mono ?_
    rintro e z4 ⟨rfl, rfl⟩
    go_wp2_with fail
    refine (HNu.out 3 (.inr (.inr rfl)) z3).mono ?_
    rintro e z4 ⟨rfl, rfl⟩
    have c1 := HA3.out
    have c2 := HB73.out
    have c3 := HB83.out
    go_wp2_with fail
    clear c1 c2 c3
    obtain ⟨v5, hv5⟩ : ∃ v, v = z3.alloc (.cells #[Value.slice none 0 0] 29) := ⟨_, rfl⟩
    have HG5 : Hid (Below W.heap.size W v5) := Lib.hid (by rw [hv5]; exact HGz3.out.alloc HGz3.out.size _)
    rw [← hv5]
    clear hv5 HA3 HB73 HB83 HP3
    refine (HW1.out _ v5).mono ?_
    rintro e z5 ⟨rfl, rfl⟩
    go_wp2_with fail
    refine (HNu.out 1 (.inl rfl) z5).mono ?_
    rintro e z6 ⟨rfl, rfl⟩
    go_wp2_with fail
    refine (sum_nil z5).mono ?_
    rintro e z6 ⟨rfl, hb6⟩
    have HG6 := Lib.hid (HG5.out.trans (hb6.mono HG5.out.size))
    clear hb6
    rw [zdig]
    have hsz := zdig_same
    go_wp2_with fail
    refine (len_nil z6).mono ?_
    rintro e z7 ⟨rfl, rfl⟩
    go_wp2_with fail
    refine (copy_nil z7).mono ?_
    rintro e z8 ⟨rfl, rfl⟩
    go_wp2_with fail
    refine (mid_nil z8).mono ?_
    rintro e z9 ⟨rfl, hb9⟩
    have HG9 := Lib.hid (HG6.out.trans (hb9.mono HG6.out.size))
    clear hb9 hsz
    have hfm := field_mid0
    go_wp2_with fail
    clear hfm
    refine (reset_nil z9).mono ?_
    rintro e z10 ⟨rfl, rfl⟩
    have mk64 : ∀ w : World, (Instr.makeSlice 29 (.int .i64 64) (.int .i64 64)).run Tryd.prog w = .ok (.slice (some ⟨w.heap.size, 0, none⟩) 64 64) (w.alloc (.cells (madeCells #[.int .u8 0] 64) 5)) := make_bytes 64 (by decide)
    go_wp2_with fail
    clear mk64
    obtain ⟨v11, hv11⟩ : ∃ v, v = z10.alloc (.cells (madeCells #[.int .u8 0] 64) 5) := ⟨_, rfl⟩
    have HG11 : Hid (Below W.heap.size W v11) := Lib.hid (by rw [hv11]; exact HG9.out.alloc HG9.out.size _)
    rw [← hv11]
    clear hv11
    refine (resume_not zeros8 rfl 0 (some ⟨z10.heap.size, 0, none⟩) 64 64 2 (.inl ⟨by decide, rfl⟩) v11).mono ?_
    rintro e z12 ⟨rfl, hb12⟩
    have HG12 := Lib.hid (HG11.out.trans (hb12.mono HG11.out.size))
    clear hb12
    go_wp2_with fail
    refine (resume_not zeros8 rfl 36028797018963968 none 0 0 3 (.inr ⟨by decide, by decide, rfl⟩) z12).mono ?_
    rintro e z13 ⟨rfl, hb13⟩
    have HG13 := Lib.hid (HG12.out.trans (hb13.mono HG12.out.size))
    clear hb13
    go_wp2_with fail
    refine (resume_any zeros8 rfl 36028797018963967 (by decide) none [] (by decide) 0 z13 (fun h => absurd rfl h)).mono ?_
    rintro e z14 ⟨rfl, htk14, hb14⟩
    have HG14 := Lib.hid (HG13.out.trans (hb14.mono HG13.out.size))
    have HTk14 := Lib.hid htk14
    obtain ⟨R, hR⟩ : ∃ R, z13.heap.size + 1 = R := ⟨_, rfl⟩
    have HRl : Hid (W.heap.size ≤ R) := Lib.hid (by have := HG13.out.size; omega)
    rw [hR] at HTk14 ⊢
    clear hb14 htk14 hR
    go_wp2_with fail
    refine (HNu.out 2 (.inr (.inl rfl)) z14).mono ?_
    rintro e z15 ⟨rfl, rfl⟩
    go_wp2_with fail
    refine (HNu.out 3 (.inr (.inr rfl)) z14).mono ?_
    rintro e z15 ⟨rfl, rfl⟩
    have mk63 : ∀ w : World, (Instr.makeSlice 29 (.int .i64 63) (.int .i64 63)).run Tryd.prog w = .ok (.slice (some ⟨w.heap.size, 0, none⟩) 63 63) (w.alloc (.cells (madeCells #[.int .u8 0] 63) 5)) := make_bytes 63 (by decide)
    go_wp2_with fail
    clear mk63
    have HPm := Lib.hid (zeros_parts z14 R HTk14.out.lt)
    obtain ⟨w5, hw5⟩ : ∃ w5, w5 = (z14.alloc (.cells (madeCells #[.int .u8 0] 63) 5)).alloc (.cells #[.slice (some ⟨z14.heap.size, 0, none⟩) 63 63] 29) := ⟨_, rfl⟩
    have HQ5 : Hid (Below z14.heap.size z14 w5) := Lib.hid (by rw [hw5]; exact ((Below.refl _ z14).alloc (Nat.le_refl _) _).alloc (by simp) _)
    rw [← hw5] at HPm ⊢
    have HX5 := Lib.hid (HTk14.out.keep HQ5.out HTk14.out.lt)
    have HG15 := Lib.hid (HG14.out.trans (HQ5.out.mono HG14.out.size))
    clear hw5
    refine (write_ok R zeros8 36028797018963967 [] _ 1 1 (by decide) _ _ _ w5 (HT.out.below HG15.out) HX5.out HPm.out (by rw [cat_one]; decide)).mono ?_
    rintro e z16 ⟨rfl, htk16, hb16⟩
    rw [cat_one, List.nil_append] at htk16
    have HTk16 := Lib.hid htk16
    have HG16 := Lib.hid (HG15.out.trans (hb16.below HRl.out HG15.out.size))
    clear htk16 hb16 HPm HQ5 HX5
    go_wp2_with fail
    have HC17 : Hid (((z16.alloc (.cells #[.int .u8 0] 5)).alloc (.cells #[.slice (some ⟨z16.heap.size, 0, none⟩) 1 1] 29)).cell? ⟨z16.heap.size + 1, 0, none⟩ = some (.slice (some ⟨z16.heap.size, 0, none⟩) 1 1)) := Lib.hid (by
      have h := (MapKept.heap_alloc (z16.alloc (.cells #[.int .u8 0] 5)) (.cells #[.slice (some ⟨z16.heap.size, 0, none⟩) 1 1] 29)).1
      simp only [World.size_alloc] at h
      rw [cell_of_heap h]
      rfl)
    obtain ⟨w6, hw6⟩ : ∃ w6, w6 = (z16.alloc (.cells #[.int .u8 0] 5)).alloc (.cells #[.slice (some ⟨z16.heap.size, 0, none⟩) 1 1] 29) := ⟨_, rfl⟩
    have HQ6 : Hid (Below z16.heap.size z16 w6) := Lib.hid (by rw [hw6]; exact ((Below.refl _ z16).alloc (Nat.le_refl _) _).alloc (by simp) _)
    rw [← hw6] at HC17 ⊢
    have HX6 := Lib.hid (HTk16.out.keep HQ6.out HTk16.out.lt)
    have HG17 := Lib.hid (HG16.out.trans (HQ6.out.mono HG16.out.size))
    clear hw6
    refine (write_long R zeros8 36028797018963967 (List.replicate 63 0) (z16.heap.size + 1) 0 1 _ 1 1 w6 HX6.out HC17.out (by decide) (by decide) (by decide)).mono ?_
    rintro e z18 ⟨rfl, m18, rfl⟩
    have HX18 := Lib.hid (HX6.out.drewN m18)
    have HG18 := Lib.hid (below_drawn m18 HG17.out)
    generalize w6.drewN m18 = z18 at HX18 HG18 ⊢
    clear HC17 HQ6 HX6
    go_wp2_with fail
    refine (HNu.out 3 (.inr (.inr rfl)) z18).mono ?_
    rintro e z19 ⟨rfl, rfl⟩
    go_wp2_with fail
    refine (long_len R z18 HX18.out).mono ?_
    rintro e z20 ⟨rfl, m20, rfl⟩
    have HG20 := Lib.hid (below_drawn m20 HG18.out)
    generalize z18.drewN m20 = z20 at HG20 ⊢
    go_wp2_with fail
    refine (shaCompare_any zero32 oneL rfl rfl z20).mono ?_
    rintro e z21 ⟨rfl, hb21⟩
    have HG21 := Lib.hid (HG20.out.trans (hb21.mono HG20.out.size))
    clear hb21
    rw [show compareBytes zero32 oneL = -1 by decide]
    go_wp2_with fail
    refine (shaCompare_any oneL oneL rfl rfl z21).mono ?_
    rintro e z22 ⟨rfl, hb22⟩
    have HG22 := Lib.hid (HG21.out.trans (hb22.mono HG21.out.size))
    clear hb22
    rw [show compareBytes oneL oneL = 0 by decide]
    go_wp2_with fail
    go_ret
    exact ⟨rfl, HG22.out⟩
end Go.Proofs.YtphgaemmbdogmaaDoor
