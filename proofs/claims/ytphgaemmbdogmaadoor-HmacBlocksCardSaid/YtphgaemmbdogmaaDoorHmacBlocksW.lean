/- HmacBlocks, walked. -/
import Derived.Test.YtphgaemmbdogmaaDoorMacWake7
import Derived.Test.YtphgaemmbdogmaaDoorMacX
import Derived.Test.YtphgaemmbdogmaaDoorShaFreshA
namespace Go.Proofs.YtphgaemmbdogmaaDoor
open Go.ChangeShapes Go.WideShapes Go.ChangeAt Go.RowKit Go.Lib

set_option maxRecDepth 100000 in
set_option maxHeartbeats 16000000 in
theorem hmacBlocks_walk (a : Option Addr) (c : Nat) (l : List UInt8) (a2 : Option Addr) (c2 : Nat) (l2 : List UInt8) (x : Int) (W : World) (hT : Tab W) (hn : a = none → l = []) (hB : Bytes W.heap.size W.heap.size a l W) (hm : l.length ≤ 140737488351232) (hc : l.length ≤ c) (hk : a = none → c = 0)
    (hn2 : a2 = none → l2 = []) (hB2 : Bytes W.heap.size W.heap.size a2 l2 W) (hm2 : l2.length ≤ 140737488351232) (hc2 : l2.length ≤ c2) (hx : (Lit.int .i64 x).wf = true) :
    Calls Tryd.prog 14 #[.slice a l.length c, .slice a2 l2.length c2, .int .i64 x] W fun e w' => e = .returned (.bool true) ∧ Below W.heap.size W w' := by
  have HT := Lib.hid hT
  have HWakes := Lib.hid (fun w (h : Tab w) => wakes7_any w h)
  have HB := Lib.hid hB
  have HB2 := Lib.hid hB2
  have HNil := Lib.hid (fun e => And.intro (hn e) (hk e))
  have HOne := Lib.hid (fun (p : Option Addr) (cp : Nat) (k : List UInt8) (v : World) (hg : Below W.heap.size W v) (hp : Bytes v.heap.size v.heap.size p k v) (h1 : k.length ≤ cp) (h2 : k.length ≤ 140737488351232) =>
    hmacOne_any p cp k a2 c2 l2 v (hT.below hg) hp h1 h2 ((hB2.keep hg).at hg.size hg.size) hc2 hm2)
  have HExt0 := Lib.hid (fun (p : Option Addr) (cp : Nat) (k : List UInt8) (v : World) (hg : Below W.heap.size W v) (hp : Bytes v.heap.size v.heap.size p k v) (h1 : k.length ≤ cp) (h2 : k.length ≤ 140737488351232) =>
    extract_any p cp k a2 c2 l2 v (hT.below hg) hp h1 h2 ((hB2.keep hg).at hg.size hg.size) hc2 hm2)
  have HSum := Lib.hid (fun v hv => sum_one a c l W hT hB hc hm v hv)
  have H1 := Lib.hid (HOne.out a c l W (Below.refl _ _) hB hc hm)
  obtain ⟨D, hD⟩ : ∃ D, hmacL l l2 = D := ⟨_, rfl⟩
  have hDl : D.length = 32 := by rw [← hD]; exact sumI_length _ _ _
  have HSame := Lib.hid (fun w => dig_same D hDl w)
  have HDD := Lib.hid hD
  rw [hD] at H1
  unfold dig at H1 HSame
  have HYi := Lib.hid (dig_size D hDl)
  have HYo := Lib.hid (dig_one D)
  have HYs : Hid ((Go.Lib.byteCells zero32).toArray.size = (Go.Lib.byteCells D).toArray.size) := Lib.hid (by rw [List.size_toArray, List.size_toArray, bc_len, bc_len, hDl]; rfl)
  have HYc : Hid ((Tryd.prog.info? 24).map (·.size) = some (Go.Lib.byteCells D).length) := Lib.hid (by rw [bc_len, hDl]; kernel_rfl)
  obtain ⟨n, hnn⟩ : ∃ n, l.length = n := ⟨_, rfl⟩
  obtain ⟨n2, hnn2⟩ : ∃ n, l2.length = n := ⟨_, rfl⟩
  have HL := Lib.hid hnn
  have HL2 := Lib.hid hnn2
  rw [hnn, hnn2] at H1
  rw [hnn] at HSum hm
  rw [hnn2] at HOne HExt0
  rw [hnn, hnn2]
  have HM := Lib.hid hm
  clear hT hB hB2 hn hk hn2 hm hc hm2 hc2 hD hDl hnn hnn2
  go_enter Tryd.func14, Tryd.ntmps14
  go_wp2_with fail
  refine H1.out.mono ?_
  rintro e w1 ⟨rfl, hb1⟩
  have HG1 := Lib.hid hb1
  obtain ⟨b7, hb7⟩ : ∃ b, w1.heap.size = b := ⟨_, rfl⟩
  have HB7 := Lib.hid hb7
  obtain ⟨v2, hv2⟩ : ∃ v, v = w1.alloc (.cells (Go.Lib.byteCells D).toArray 24) := ⟨_, rfl⟩
  have HV2 := Lib.hid ((World.setRow_alloc_new w1 (Go.Lib.byteCells zero32).toArray (Go.Lib.byteCells D).toArray 24).trans hv2.symm)
  have HR2 : Hid (v2.heap[b7]? = some (.cells (Go.Lib.byteCells D).toArray 24 (0, 0))) := Lib.hid (by rw [hv2, ← hb7]; exact heap_last _ _)
  have HG2 : Hid (Below W.heap.size W v2) := Lib.hid (by rw [hv2]; exact HG1.out.alloc HG1.out.size _)
  clear hv2 hb1 hb7
  by_cases h64 : 64 < n
  · have hd : decide ((n : Int) > 64) = true := decide_eq_true (by omega)
    have hti : (64 : Int) < (n : Int) := by omega
    go_wp2_with (refine wpList_store_row rfl 24 (.tmp 7) (.tmp 14) rfl w1.heap.size (Go.Lib.byteCells D).toArray rfl rfl 24 (Go.Lib.byteCells zero32).toArray (heap_last _ _) HYi.out HYs.out HYo.out ?_; refine wpList_world HV2.out ?_; rw [HB7.out])
    obtain ⟨K, hK⟩ : ∃ k, shaL l = k := ⟨_, rfl⟩
    have HKl : Hid (K.length = 32) := Lib.hid (by rw [← hK]; exact sumI_length _ _ _)
    have HKD : Hid (hmacL K l2 = D) := Lib.hid (by rw [← hK, hmacL_sum l l2 (by rw [HL.out]; exact h64)]; exact HDD.out)
    have hS := HSum.out v2 HG2.out
    rw [show sumI firstI 0 l = K from hK] at hS
    unfold dig at hS
    refine hS.mono ?_
    rintro e w3 ⟨rfl, hb3⟩
    have HYi3 := Lib.hid (dig_size K HKl.out)
    have HYo3 := Lib.hid (dig_one K)
    have HYs3 : Hid ((Go.Lib.byteCells zero32).toArray.size = (Go.Lib.byteCells K).toArray.size) := Lib.hid (by rw [List.size_toArray, List.size_toArray, bc_len, bc_len, HKl.out]; rfl)
    obtain ⟨b8, hb8⟩ : ∃ b, w3.heap.size = b := ⟨_, rfl⟩
    have HB8 := Lib.hid hb8
    obtain ⟨v5, hv5⟩ : ∃ v, v = w3.alloc (.cells (Go.Lib.byteCells K).toArray 24) := ⟨_, rfl⟩
    have HV5 := Lib.hid ((World.setRow_alloc_new w3 (Go.Lib.byteCells zero32).toArray (Go.Lib.byteCells K).toArray 24).trans hv5.symm)
    have HG3 : Hid (Below W.heap.size W w3) := Lib.hid (HG2.out.trans (hb3.mono HG2.out.size))
    have HA5 : Hid (Below w3.heap.size w3 v5) := Lib.hid (by rw [hv5]; exact (Below.refl _ _).alloc (Nat.le_refl _) _)
    have HGv : Hid (Below W.heap.size W v5) := Lib.hid (HG3.out.trans (HA5.out.mono HG3.out.size))
    have hr3 := (hb3.block b7 (Array.getElem?_eq_some_iff.1 HR2.out).1).trans HR2.out
    have HRv : Hid (v5.heap[b7]? = some (.cells (Go.Lib.byteCells D).toArray 24 (0, 0))) := Lib.hid ((HA5.out.block b7 (Array.getElem?_eq_some_iff.1 hr3).1).trans hr3)
    have HK5 : Hid (Bytes v5.heap.size v5.heap.size (some ⟨b8, 0, none⟩) K v5) := Lib.hid (row_bytes (by rw [hv5, ← hb8]; exact heap_last _ _) (by rw [hv5, ← hb8]; simp) (by rw [hv5, ← hb8]; simp))
    have hOne5 := HOne.out (some ⟨b8, 0, none⟩) 32 K v5.drew (below_drawn 1 HGv.out) HK5.out (by rw [HKl.out]; decide) (by rw [HKl.out]; decide)
    rw [HKD.out, HKl.out] at hOne5
    unfold dig at hOne5
    have HOne5 := Lib.hid hOne5
    clear hS hK hb3 hb8 hv5 hr3 hOne5
    go_wp2_with (refine wpList_store_row rfl 24 (.tmp 8) (.tmp 20) rfl w3.heap.size (Go.Lib.byteCells K).toArray rfl rfl 24 (Go.Lib.byteCells zero32).toArray (heap_last _ _) HYi3.out HYs3.out HYo3.out ?_; refine wpList_world HV5.out ?_; rw [HB8.out])
    obtain ⟨SS, hSS⟩ : ∃ SS : World → Prop, SS = fun w => Below v5.heap.size v5 w := ⟨_, rfl⟩
    have HS0 : Hid (∀ w, Below v5.heap.size v5 w → SS w) := Lib.hid (by rw [hSS]; exact fun w h => h)
    have HSB : Hid (∀ w, SS w → Below v5.heap.size v5 w) := Lib.hid (by rw [hSS]; exact fun w h => h)
    have HSS : Hid (∀ w w', SS w → Below w.heap.size w w' → SS w') := Lib.hid (fun w w' h hb => HS0.out w' ((HSB.out w h).trans (hb.mono (HSB.out w h).size)))
    have HSG : Hid (∀ w, SS w → Below W.heap.size W w) := Lib.hid (fun w h => HGv.out.trans ((HSB.out w h).mono HGv.out.size))
    have HC0 : Hid (∀ w, SS w → w.rangeAt b7 0 (Go.Lib.byteCells D)) := Lib.hid (fun w h j y hy => by
      have hb := ((HSB.out w h).block b7 (Array.getElem?_eq_some_iff.1 HRv.out).1).trans HRv.out
      rw [cell_of_heap hb, Nat.zero_add, List.getElem?_toArray, hy])
    clear hSS
    refine wp_region_held_drew (S := SS) (by kernel_rfl) (HS0.out _ (below_drawn 1 (Below.refl _ _))) (fun hHeld => ?_)
    first | (refine held_take 0 _ rfl (by kernel_rfl) (by kernel_rfl) (by kernel_rfl) (v := ?_) (fun _ _ _ h => h) ?_ rfl hHeld ?_; rotate_left; focus (intro w hS; skip; go_simp; try with_reducible rfl)) | (refine held_skip 0 _ rfl (by kernel_rfl) (by kernel_rfl) (by kernel_rfl) (fun _ _ _ h => h) rfl hHeld ?_)
    show wpAnyH _ _ _ _ _ _ _ { tmps := _, defers := _ } _
    try simp only [Act.put, List.setIfInBounds_toArray, List.set_cons_zero, List.set_cons_succ]
    first | (refine held_take 1 _ rfl (by kernel_rfl) (by kernel_rfl) (by kernel_rfl) (v := ?_) (fun _ _ _ h => h) ?_ rfl hHeld ?_; rotate_left; focus (intro w hS; skip; go_simp; try with_reducible rfl)) | (refine held_skip 1 _ rfl (by kernel_rfl) (by kernel_rfl) (by kernel_rfl) (fun _ _ _ h => h) rfl hHeld ?_)
    show wpAnyH _ _ _ _ _ _ _ { tmps := _, defers := _ } _
    try simp only [Act.put, List.setIfInBounds_toArray, List.set_cons_zero, List.set_cons_succ]
    refine held_load 4 _ rfl (by kernel_rfl) (by kernel_rfl) (by kernel_rfl) 24 (.tmp 7) rfl b7 0 (Go.Lib.byteCells D) _ (fun _ _ _ h => h) rfl (fun w h => HC0.out w h) Tryd.underlying24 rfl HYc.out rfl hHeld ?_
    show wpAnyH _ _ _ _ _ _ _ { tmps := _, defers := _ } _
    try simp only [Act.put, List.setIfInBounds_toArray, List.set_cons_zero, List.set_cons_succ]
    refine held_next 2 _ (by kernel_rfl) rfl rfl fun K hK => ?_
    go_simp
    have hH2 : SS ((v5.drew).alloc (.cells #[.slice a2 n2 c2] 29)) := HSS.out _ _ hHeld ((Below.refl _ _).alloc (Nat.le_refl _) _)
    refine hK _ _ hH2 (fun hHeld => ?_)
    clear hK K
    show wpAnyH _ _ _ _ _ _ _ { tmps := _, defers := _ } _
    try simp only [Act.put, List.setIfInBounds_toArray, List.set_cons_zero, List.set_cons_succ]
    refine held_next 3 _ (by kernel_rfl) rfl rfl fun K hK => ?_
    go_simp
    refine (HOne5.out).mono ?_
    rintro e w6 ⟨rfl, hb6⟩
    show K _ _
    have hb6' : Below v5.heap.size v5 w6 := (below_drawn 1 (Below.refl v5.heap.size v5)).trans (show Below v5.heap.size v5.drew w6 from hb6)
    refine hK _ _ (HS0.out _ hb6') (fun hHeld => ?_)
    clear hK K hb6
    show wpAnyH _ _ _ _ _ _ _ { tmps := _, defers := _ } _
    try simp only [Act.put, List.setIfInBounds_toArray, List.set_cons_zero, List.set_cons_succ]
    first | (refine held_take 5 _ rfl (by kernel_rfl) (by kernel_rfl) (by kernel_rfl) (v := ?_) (fun _ _ _ h => h) ?_ rfl hHeld ?_; rotate_left; focus (intro w hS; have h := HSame.out w; go_simp; try with_reducible rfl)) | (refine held_skip 5 _ rfl (by kernel_rfl) (by kernel_rfl) (by kernel_rfl) (fun _ _ _ h => h) rfl hHeld ?_)
    show wpAnyH _ _ _ _ _ _ _ { tmps := _, defers := _ } _
    try simp only [Act.put, List.setIfInBounds_toArray, List.set_cons_zero, List.set_cons_succ]
    first | (refine held_take 6 _ rfl (by kernel_rfl) (by kernel_rfl) (by kernel_rfl) (v := ?_) (fun _ _ _ h => h) ?_ rfl hHeld ?_; rotate_left; focus (intro w hS; skip; go_simp; try with_reducible rfl)) | (refine held_skip 6 _ rfl (by kernel_rfl) (by kernel_rfl) (by kernel_rfl) (fun _ _ _ h => h) rfl hHeld ?_)
    show wpAnyH _ _ _ _ _ _ _ { tmps := _, defers := _ } _
    try simp only [Act.put, List.setIfInBounds_toArray, List.set_cons_zero, List.set_cons_succ]
    refine held_next 7 _ (by kernel_rfl) rfl rfl fun K hK => ?_
    go_simp
    refine (HWakes.out _ (HT.out.below (HSG.out _ hHeld))).mono ?_
    rintro e w9 ⟨rfl, hb9⟩
    show K _ _
    refine hK _ _ (HSS.out _ _ hHeld hb9) (fun hHeld => ?_)
    clear hK K hb9
    show wpAnyH _ _ _ _ _ _ _ { tmps := _, defers := _ } _
    try simp only [Act.put, List.setIfInBounds_toArray, List.set_cons_zero, List.set_cons_succ]
    first | (refine held_take 8 _ rfl (by kernel_rfl) (by kernel_rfl) (by kernel_rfl) (v := ?_) (fun _ _ _ h => h) ?_ rfl hHeld ?_; rotate_left; focus (intro w hS; skip; go_simp; try with_reducible rfl)) | (refine held_skip 8 _ rfl (by kernel_rfl) (by kernel_rfl) (by kernel_rfl) (fun _ _ _ h => h) rfl hHeld ?_)
    show wpAnyH _ _ _ _ _ _ _ { tmps := _, defers := _ } _
    try simp only [Act.put, List.setIfInBounds_toArray, List.set_cons_zero, List.set_cons_succ]
    first | (refine held_take 9 _ rfl (by kernel_rfl) (by kernel_rfl) (by kernel_rfl) (v := ?_) (fun _ _ _ h => h) ?_ rfl hHeld ?_; rotate_left; focus (intro w hS; skip; go_simp; try with_reducible rfl)) | (refine held_skip 9 _ rfl (by kernel_rfl) (by kernel_rfl) (by kernel_rfl) (fun _ _ _ h => h) rfl hHeld ?_)
    show wpAnyH _ _ _ _ _ _ _ { tmps := _, defers := _ } _
    try simp only [Act.put, List.setIfInBounds_toArray, List.set_cons_zero, List.set_cons_succ]
    refine wpAnyH_done (by kernel_rfl) ?_ _
    go_wp2_with fail
    go_ret
    exact ⟨rfl, HSG.out _ hHeld⟩
  · have hd : decide ((n : Int) > 64) = false := decide_eq_false (by omega)
    have hti : ¬ (64 : Int) < (n : Int) := by omega
    have HN64' : Hid (n ≤ 64) := Lib.hid (by omega)
    have HGe : Hid (Below v2.heap.size v2 (v2.alloc (.cells #[] 5))) := Lib.hid ((Below.refl _ v2).alloc (Nat.le_refl _) _)
    have HOe : Hid ((v2.alloc (.cells #[] 5)).ownsRow v2.heap.size 5 1 (.slice (some ⟨v2.heap.size, 0, none⟩) 0 0) 0 (Go.Lib.byteCells [])) := Lib.hid (by
      exact ⟨rfl, .inr ⟨v2.heap.size, 0, #[], rfl, Nat.le_refl _, (MapKept.heap_alloc v2 _).1, Nat.le_refl _, by decide, rfl, rfl⟩⟩)
    have HBe : Hid (Bytes (v2.alloc (.cells #[] 5)).heap.size (v2.alloc (.cells #[] 5)).heap.size a l (v2.alloc (.cells #[] 5))) := Lib.hid (((HB.out.keep HG2.out).keep (HGe.out.mono HG2.out.size)).at (Nat.le_trans HG2.out.size HGe.out.size) (Nat.le_trans HG2.out.size HGe.out.size))
    have HNl : Hid (a = none → n = 0 ∧ c = 0) := Lib.hid (fun e => by have h := HNil.out e; rw [← HL.out, h.1]; exact ⟨rfl, h.2⟩)
    go_wp2_with (first
      | (refine wpList_store_row rfl 24 (.tmp 7) (.tmp 14) rfl w1.heap.size (Go.Lib.byteCells D).toArray rfl rfl 24 (Go.Lib.byteCells zero32).toArray (heap_last _ _) HYi.out HYs.out HYo.out ?_; refine wpList_world HV2.out ?_; rw [HB7.out])
      | (refine wpList_append_piece rfl (.tmp 30) (.tmp 31) rfl v2.heap.size _ 0 [] rfl HOe.out a n c n l rfl HL.out HNl.out _ _ HBe.out (by omega) (by have := HM.out; omega) HGe.out.size ?_))
    intro q3 k3 w3 ho3 hg3
    have HX : Hid (∃ (i : Nat) (q : Option Addr) (cq : Nat), Value.slice q3 n k3 = .slice q (n + i) cq ∧ Value.int .i64 0 = .int .i64 (i : Int) ∧ n + i ≤ 64 ∧ Hid (w3.ownsRow v2.heap.size 5 1 (.slice q (n + i) cq) (n + i) (Go.Lib.byteCells (l ++ List.replicate i 0))) ∧ Hid (Below v2.heap.size v2 w3)) := Lib.hid
      ⟨0, q3, k3, rfl, rfl, HN64'.out, Lib.hid (by rw [List.replicate_zero, List.append_nil]; exact ho3), Lib.hid (HGe.out.grown hg3 HGe.out.size (fun k hk => by simp [Value.ownBlock] at hk; omega))⟩
    clear ho3 hg3
    go_wp2_with fail
    go_loopw [9, 10] (fun s v wr => ∃ (i : Nat) (q : Option Addr) (cq : Nat), s = .slice q (n + i) cq ∧ v = .int .i64 (i : Int) ∧ n + i ≤ 64 ∧ Hid (wr.ownsRow v2.heap.size 5 1 (.slice q (n + i) cq) (n + i) (Go.Lib.byteCells (l ++ List.replicate i 0))) ∧ Hid (Below v2.heap.size v2 wr)) (fun _ v _ => 64 - (RowKit.intOf v).toNat)
    case atStart => exact HX.out
    case round =>
      clear HX
      obtain ⟨i, q, cq, rfl, rfl, h64i, ho, hb⟩ := hrel
      obtain ⟨m, hm⟩ : ∃ m, n + i = m := ⟨_, rfl⟩
      have HMM := Lib.hid hm
      by_cases hix : (i : Int) < x
      · have hdx : decide ((i : Int) < x) = true := decide_eq_true hix
        by_cases hm64 : m < 64
        · have hd64 : decide ((m : Int) < 64) = true := decide_eq_true (by omega)
          have hmi : (m : Int) < 64 := by omega
          have hi64 : (i : Int) < 64 := by omega
          have HO2 := Lib.hid (ho.out.alloc (.cells (Go.Lib.byteCells [0]).toArray 5))
          have HL0 := Lib.hid (lit_bytes wr [0])
          have HG0 : Hid (Below v2.heap.size v2 (wr.alloc (.cells (Go.Lib.byteCells [0]).toArray 5))) := Lib.hid (hb.out.alloc hb.out.size _)
          rw [hm] at HO2 ⊢
          clear ho hb
          go_wp2_with (refine wpList_append_piece rfl (.tmp 43) (.tmp 44) rfl v2.heap.size _ m (l ++ List.replicate i 0) rfl HO2.out (some ⟨wr.heap.size, 0, none⟩) 1 1 (m + 1) [0] rfl rfl (fun h => by cases h) _ _ HL0.out rfl (by omega) HG0.out.size ?_)
          intro q4 k4 w4 ho4 hg4
          have HO4 : Hid (w4.ownsRow v2.heap.size 5 1 (.slice q4 (n + (i + 1)) k4) (n + (i + 1)) (Go.Lib.byteCells (l ++ List.replicate (i + 1) 0))) := Lib.hid (by
            rw [show n + (i + 1) = m + 1 by omega, List.replicate_succ']
            first | exact ho4 | (rw [← List.append_assoc]; exact ho4))
          have HG4 : Hid (Below v2.heap.size v2 w4) := Lib.hid (HG0.out.grown hg4 HG0.out.size (fun k hk => (HO2.out.lt k hk).1))
          clear ho4 hg4
          go_wp2_with fail
          go_roundw
          case rel => exact ⟨i + 1, q4, k4, by rw [show n + (i + 1) = m + 1 by have := HMM.out; omega], by go_num, by have := HMM.out; omega, HO4, HG4⟩
          case measure => simp [RowKit.intOf]; omega
        · have hd64 : decide ((m : Int) < 64) = false := decide_eq_false (by omega)
          have hmi : ¬ (m : Int) < 64 := by omega
          rw [hm]
          clear hm hm64
          obtain ⟨v6, hv6⟩ : ∃ v6 : World, v6 = wr := ⟨_, rfl⟩
          rw [← hv6] at hb ho ⊢
          obtain ⟨Z, hZ⟩ : ∃ Z, l ++ List.replicate i (0 : UInt8) = Z := ⟨_, rfl⟩
          have HZl : Hid (Z.length = n + i) := Lib.hid (by rw [← hZ, List.length_append, List.length_replicate, HL.out])
          have HZD : Hid (hmacL Z l2 = D) := Lib.hid (by rw [← hZ, hmacL_zeros l l2 i (by rw [HL.out]; exact h64i)]; exact HDD.out)
          have HCap : Hid (n + i ≤ cq) := Lib.hid (owns_cap ho.out)
          have HBZ : Hid (Bytes v6.heap.size v6.heap.size q Z v6) := Lib.hid (by
            have h := ho.out
            rw [hZ] at h
            obtain ⟨p', c', he, -, hby⟩ := owns_bytes h HZl.out
            cases he
            exact hby)
          have HGv : Hid (Below W.heap.size W v6) := Lib.hid (HG2.out.trans (hb.out.mono HG2.out.size))
          have HRv : Hid (v6.heap[b7]? = some (.cells (Go.Lib.byteCells D).toArray 24 (0, 0))) := Lib.hid ((hb.out.block b7 (Array.getElem?_eq_some_iff.1 HR2.out).1).trans HR2.out)
          have hOne6 := HOne.out q cq Z v6.drew (below_drawn 1 HGv.out) HBZ.out (by rw [HZl.out]; exact HCap.out) (by rw [HZl.out]; omega)
          rw [HZD.out, HZl.out, HMM.out] at hOne6
          unfold dig at hOne6
          have HOne6 := Lib.hid hOne6
          have HN64 : Hid (n + i ≤ 64) := Lib.hid h64i
          clear hOne6 hZ hv6 ho hb
          obtain ⟨SS, hSS⟩ : ∃ SS : World → Prop, SS = fun w => Below v6.heap.size v6 w := ⟨_, rfl⟩
          have HS0 : Hid (∀ w, Below v6.heap.size v6 w → SS w) := Lib.hid (by rw [hSS]; exact fun w h => h)
          have HSB : Hid (∀ w, SS w → Below v6.heap.size v6 w) := Lib.hid (by rw [hSS]; exact fun w h => h)
          have HSS : Hid (∀ w w', SS w → Below w.heap.size w w' → SS w') := Lib.hid (fun w w' h hb => HS0.out w' ((HSB.out w h).trans (hb.mono (HSB.out w h).size)))
          have HSG : Hid (∀ w, SS w → Below W.heap.size W w) := Lib.hid (fun w h => HGv.out.trans ((HSB.out w h).mono HGv.out.size))
          have HC0 : Hid (∀ w, SS w → w.rangeAt b7 0 (Go.Lib.byteCells D)) := Lib.hid (fun w h j y hy => by
            have hb := ((HSB.out w h).block b7 (Array.getElem?_eq_some_iff.1 HRv.out).1).trans HRv.out
            rw [cell_of_heap hb, Nat.zero_add, List.getElem?_toArray, hy])
          clear hSS
          have HExt : Hid (∀ w, SS w → Calls Tryd.prog 49 #[.slice q m cq, .slice a2 n2 c2] w fun e w' => e = .returned (.agg (Go.Lib.byteCells D).toArray) ∧ Below w.heap.size w w') := Lib.hid (fun w h => by
            have hbz := (HBZ.out.keep (HSB.out w h)).at (HSB.out w h).size (HSB.out w h).size
            have k := HExt0.out q cq Z w (HSG.out w h) hbz (by rw [HZl.out]; exact HCap.out) (by rw [HZl.out]; have := HN64.out; omega)
            rw [HZD.out, HZl.out, HMM.out] at k
            unfold dig at k
            exact k)
          go_wp2_with fail
          refine wp_region_held_drew (S := SS) (by kernel_rfl) (HS0.out _ (below_drawn 1 (Below.refl _ _))) (fun hHeld => ?_)
          first | (refine held_take 0 _ rfl (by kernel_rfl) (by kernel_rfl) (by kernel_rfl) (v := ?_) (fun _ _ _ h => h) ?_ rfl hHeld ?_; rotate_left; focus (intro w hS; skip; go_simp; try with_reducible rfl)) | (refine held_skip 0 _ rfl (by kernel_rfl) (by kernel_rfl) (by kernel_rfl) (fun _ _ _ h => h) rfl hHeld ?_)
          show wpAnyH _ _ _ _ _ _ _ { tmps := _, defers := _ } _
          try simp only [Act.put, List.setIfInBounds_toArray, List.set_cons_zero, List.set_cons_succ]
          first | (refine held_take 1 _ rfl (by kernel_rfl) (by kernel_rfl) (by kernel_rfl) (v := ?_) (fun _ _ _ h => h) ?_ rfl hHeld ?_; rotate_left; focus (intro w hS; skip; go_simp; try with_reducible rfl)) | (refine held_skip 1 _ rfl (by kernel_rfl) (by kernel_rfl) (by kernel_rfl) (fun _ _ _ h => h) rfl hHeld ?_)
          show wpAnyH _ _ _ _ _ _ _ { tmps := _, defers := _ } _
          try simp only [Act.put, List.setIfInBounds_toArray, List.set_cons_zero, List.set_cons_succ]
          refine held_load 4 _ rfl (by kernel_rfl) (by kernel_rfl) (by kernel_rfl) 24 (.tmp 7) rfl b7 0 (Go.Lib.byteCells D) _ (fun _ _ _ h => h) rfl (fun w h => HC0.out w h) Tryd.underlying24 rfl HYc.out rfl hHeld ?_
          show wpAnyH _ _ _ _ _ _ _ { tmps := _, defers := _ } _
          try simp only [Act.put, List.setIfInBounds_toArray, List.set_cons_zero, List.set_cons_succ]
          refine held_next 2 _ (by kernel_rfl) rfl rfl fun K hK => ?_
          go_simp
          have hH2 : SS ((v6.drew).alloc (.cells #[.slice a2 n2 c2] 29)) := HSS.out _ _ hHeld ((Below.refl _ _).alloc (Nat.le_refl _) _)
          refine hK _ _ hH2 (fun hHeld => ?_)
          clear hK K
          show wpAnyH _ _ _ _ _ _ _ { tmps := _, defers := _ } _
          try simp only [Act.put, List.setIfInBounds_toArray, List.set_cons_zero, List.set_cons_succ]
          refine held_next 3 _ (by kernel_rfl) rfl rfl fun K hK => ?_
          go_simp
          refine (HOne6.out).mono ?_
          rintro e w6 ⟨rfl, hb6⟩
          show K _ _
          have hb6' : Below v6.heap.size v6 w6 := (below_drawn 1 (Below.refl v6.heap.size v6)).trans (show Below v6.heap.size v6.drew w6 from hb6)
          refine hK _ _ (HS0.out _ hb6') (fun hHeld => ?_)
          clear hK K hb6
          show wpAnyH _ _ _ _ _ _ _ { tmps := _, defers := _ } _
          try simp only [Act.put, List.setIfInBounds_toArray, List.set_cons_zero, List.set_cons_succ]
          first | (refine held_take 5 _ rfl (by kernel_rfl) (by kernel_rfl) (by kernel_rfl) (v := ?_) (fun _ _ _ h => h) ?_ rfl hHeld ?_; rotate_left; focus (intro w hS; have h := HSame.out w; go_simp; try with_reducible rfl)) | (refine held_skip 5 _ rfl (by kernel_rfl) (by kernel_rfl) (by kernel_rfl) (fun _ _ _ h => h) rfl hHeld ?_)
          show wpAnyH _ _ _ _ _ _ _ { tmps := _, defers := _ } _
          try simp only [Act.put, List.setIfInBounds_toArray, List.set_cons_zero, List.set_cons_succ]
          first | (refine held_take 6 _ rfl (by kernel_rfl) (by kernel_rfl) (by kernel_rfl) (v := ?_) (fun _ _ _ h => h) ?_ rfl hHeld ?_; rotate_left; focus (intro w hS; skip; go_simp; try with_reducible rfl)) | (refine held_skip 6 _ rfl (by kernel_rfl) (by kernel_rfl) (by kernel_rfl) (fun _ _ _ h => h) rfl hHeld ?_)
          show wpAnyH _ _ _ _ _ _ _ { tmps := _, defers := _ } _
          try simp only [Act.put, List.setIfInBounds_toArray, List.set_cons_zero, List.set_cons_succ]
          first | (refine held_take 7 _ rfl (by kernel_rfl) (by kernel_rfl) (by kernel_rfl) (v := ?_) (fun _ _ _ h => h) ?_ rfl hHeld ?_; rotate_left; focus (intro w hS; skip; go_simp; try with_reducible rfl)) | (refine held_skip 7 _ rfl (by kernel_rfl) (by kernel_rfl) (by kernel_rfl) (fun _ _ _ h => h) rfl hHeld ?_)
          show wpAnyH _ _ _ _ _ _ _ { tmps := _, defers := _ } _
          try simp only [Act.put, List.setIfInBounds_toArray, List.set_cons_zero, List.set_cons_succ]
          first | (refine held_take 8 _ rfl (by kernel_rfl) (by kernel_rfl) (by kernel_rfl) (v := ?_) (fun _ _ _ h => h) ?_ rfl hHeld ?_; rotate_left; focus (intro w hS; skip; go_simp; try with_reducible rfl)) | (refine held_skip 8 _ rfl (by kernel_rfl) (by kernel_rfl) (by kernel_rfl) (fun _ _ _ h => h) rfl hHeld ?_)
          show wpAnyH _ _ _ _ _ _ _ { tmps := _, defers := _ } _
          try simp only [Act.put, List.setIfInBounds_toArray, List.set_cons_zero, List.set_cons_succ]
          refine held_load 10 _ rfl (by kernel_rfl) (by kernel_rfl) (by kernel_rfl) 24 (.tmp 7) rfl b7 0 (Go.Lib.byteCells D) _ (fun _ _ _ h => h) rfl (fun w h => HC0.out w h) Tryd.underlying24 rfl HYc.out rfl hHeld ?_
          show wpAnyH _ _ _ _ _ _ _ { tmps := _, defers := _ } _
          try simp only [Act.put, List.setIfInBounds_toArray, List.set_cons_zero, List.set_cons_succ]
          refine held_next 9 _ (by kernel_rfl) rfl rfl fun K hK => ?_
          go_simp
          refine (HExt.out _ hHeld).mono ?_
          rintro e w7 ⟨rfl, hb7⟩
          show K _ _
          refine hK _ _ (HSS.out _ _ hHeld hb7) (fun hHeld => ?_)
          clear hK K hb7
          show wpAnyH _ _ _ _ _ _ _ { tmps := _, defers := _ } _
          try simp only [Act.put, List.setIfInBounds_toArray, List.set_cons_zero, List.set_cons_succ]
          first | (refine held_take 11 _ rfl (by kernel_rfl) (by kernel_rfl) (by kernel_rfl) (v := ?_) (fun _ _ _ h => h) ?_ rfl hHeld ?_; rotate_left; focus (intro w hS; have h := HSame.out w; go_simp; try with_reducible rfl)) | (refine held_skip 11 _ rfl (by kernel_rfl) (by kernel_rfl) (by kernel_rfl) (fun _ _ _ h => h) rfl hHeld ?_)
          show wpAnyH _ _ _ _ _ _ _ { tmps := _, defers := _ } _
          try simp only [Act.put, List.setIfInBounds_toArray, List.set_cons_zero, List.set_cons_succ]
          first | (refine held_take 12 _ rfl (by kernel_rfl) (by kernel_rfl) (by kernel_rfl) (v := ?_) (fun _ _ _ h => h) ?_ rfl hHeld ?_; rotate_left; focus (intro w hS; skip; go_simp; try with_reducible rfl)) | (refine held_skip 12 _ rfl (by kernel_rfl) (by kernel_rfl) (by kernel_rfl) (fun _ _ _ h => h) rfl hHeld ?_)
          show wpAnyH _ _ _ _ _ _ _ { tmps := _, defers := _ } _
          try simp only [Act.put, List.setIfInBounds_toArray, List.set_cons_zero, List.set_cons_succ]
          first | (refine held_take 13 _ rfl (by kernel_rfl) (by kernel_rfl) (by kernel_rfl) (v := ?_) (fun _ _ _ h => h) ?_ rfl hHeld ?_; rotate_left; focus (intro w hS; skip; go_simp; try with_reducible rfl)) | (refine held_skip 13 _ rfl (by kernel_rfl) (by kernel_rfl) (by kernel_rfl) (fun _ _ _ h => h) rfl hHeld ?_)
          show wpAnyH _ _ _ _ _ _ _ { tmps := _, defers := _ } _
          try simp only [Act.put, List.setIfInBounds_toArray, List.set_cons_zero, List.set_cons_succ]
          refine held_next 14 _ (by kernel_rfl) rfl rfl fun K hK => ?_
          go_simp
          refine (HWakes.out _ (HT.out.below (HSG.out _ hHeld))).mono ?_
          rintro e w9 ⟨rfl, hb9⟩
          show K _ _
          refine hK _ _ (HSS.out _ _ hHeld hb9) (fun hHeld => ?_)
          clear hK K hb9
          show wpAnyH _ _ _ _ _ _ _ { tmps := _, defers := _ } _
          try simp only [Act.put, List.setIfInBounds_toArray, List.set_cons_zero, List.set_cons_succ]
          first | (refine held_take 15 _ rfl (by kernel_rfl) (by kernel_rfl) (by kernel_rfl) (v := ?_) (fun _ _ _ h => h) ?_ rfl hHeld ?_; rotate_left; focus (intro w hS; skip; go_simp; try with_reducible rfl)) | (refine held_skip 15 _ rfl (by kernel_rfl) (by kernel_rfl) (by kernel_rfl) (fun _ _ _ h => h) rfl hHeld ?_)
          show wpAnyH _ _ _ _ _ _ _ { tmps := _, defers := _ } _
          try simp only [Act.put, List.setIfInBounds_toArray, List.set_cons_zero, List.set_cons_succ]
          first | (refine held_take 16 _ rfl (by kernel_rfl) (by kernel_rfl) (by kernel_rfl) (v := ?_) (fun _ _ _ h => h) ?_ rfl hHeld ?_; rotate_left; focus (intro w hS; skip; go_simp; try with_reducible rfl)) | (refine held_skip 16 _ rfl (by kernel_rfl) (by kernel_rfl) (by kernel_rfl) (fun _ _ _ h => h) rfl hHeld ?_)
          show wpAnyH _ _ _ _ _ _ _ { tmps := _, defers := _ } _
          try simp only [Act.put, List.setIfInBounds_toArray, List.set_cons_zero, List.set_cons_succ]
          refine wpAnyH_done (by kernel_rfl) ?_ _
          go_wp2_with fail
          go_ret
          exact ⟨rfl, HSG.out _ hHeld⟩
      · have hdx : decide ((i : Int) < x) = false := decide_eq_false hix
        rw [hm]
        clear hm
        obtain ⟨v6, hv6⟩ : ∃ v6 : World, v6 = wr := ⟨_, rfl⟩
        rw [← hv6] at hb ho ⊢
        obtain ⟨Z, hZ⟩ : ∃ Z, l ++ List.replicate i (0 : UInt8) = Z := ⟨_, rfl⟩
        have HZl : Hid (Z.length = n + i) := Lib.hid (by rw [← hZ, List.length_append, List.length_replicate, HL.out])
        have HZD : Hid (hmacL Z l2 = D) := Lib.hid (by rw [← hZ, hmacL_zeros l l2 i (by rw [HL.out]; exact h64i)]; exact HDD.out)
        have HCap : Hid (n + i ≤ cq) := Lib.hid (owns_cap ho.out)
        have HBZ : Hid (Bytes v6.heap.size v6.heap.size q Z v6) := Lib.hid (by
          have h := ho.out
          rw [hZ] at h
          obtain ⟨p', c', he, -, hby⟩ := owns_bytes h HZl.out
          cases he
          exact hby)
        have HGv : Hid (Below W.heap.size W v6) := Lib.hid (HG2.out.trans (hb.out.mono HG2.out.size))
        have HRv : Hid (v6.heap[b7]? = some (.cells (Go.Lib.byteCells D).toArray 24 (0, 0))) := Lib.hid ((hb.out.block b7 (Array.getElem?_eq_some_iff.1 HR2.out).1).trans HR2.out)
        have hOne6 := HOne.out q cq Z v6.drew (below_drawn 1 HGv.out) HBZ.out (by rw [HZl.out]; exact HCap.out) (by rw [HZl.out]; omega)
        rw [HZD.out, HZl.out, HMM.out] at hOne6
        unfold dig at hOne6
        have HOne6 := Lib.hid hOne6
        have HN64 : Hid (n + i ≤ 64) := Lib.hid h64i
        clear hOne6 hZ hv6 ho hb
        obtain ⟨SS, hSS⟩ : ∃ SS : World → Prop, SS = fun w => Below v6.heap.size v6 w := ⟨_, rfl⟩
        have HS0 : Hid (∀ w, Below v6.heap.size v6 w → SS w) := Lib.hid (by rw [hSS]; exact fun w h => h)
        have HSB : Hid (∀ w, SS w → Below v6.heap.size v6 w) := Lib.hid (by rw [hSS]; exact fun w h => h)
        have HSS : Hid (∀ w w', SS w → Below w.heap.size w w' → SS w') := Lib.hid (fun w w' h hb => HS0.out w' ((HSB.out w h).trans (hb.mono (HSB.out w h).size)))
        have HSG : Hid (∀ w, SS w → Below W.heap.size W w) := Lib.hid (fun w h => HGv.out.trans ((HSB.out w h).mono HGv.out.size))
        have HC0 : Hid (∀ w, SS w → w.rangeAt b7 0 (Go.Lib.byteCells D)) := Lib.hid (fun w h j y hy => by
          have hb := ((HSB.out w h).block b7 (Array.getElem?_eq_some_iff.1 HRv.out).1).trans HRv.out
          rw [cell_of_heap hb, Nat.zero_add, List.getElem?_toArray, hy])
        clear hSS
        have HExt : Hid (∀ w, SS w → Calls Tryd.prog 49 #[.slice q m cq, .slice a2 n2 c2] w fun e w' => e = .returned (.agg (Go.Lib.byteCells D).toArray) ∧ Below w.heap.size w w') := Lib.hid (fun w h => by
          have hbz := (HBZ.out.keep (HSB.out w h)).at (HSB.out w h).size (HSB.out w h).size
          have k := HExt0.out q cq Z w (HSG.out w h) hbz (by rw [HZl.out]; exact HCap.out) (by rw [HZl.out]; have := HN64.out; omega)
          rw [HZD.out, HZl.out, HMM.out] at k
          unfold dig at k
          exact k)
        go_wp2_with fail
        refine wp_region_held_drew (S := SS) (by kernel_rfl) (HS0.out _ (below_drawn 1 (Below.refl _ _))) (fun hHeld => ?_)
        first | (refine held_take 0 _ rfl (by kernel_rfl) (by kernel_rfl) (by kernel_rfl) (v := ?_) (fun _ _ _ h => h) ?_ rfl hHeld ?_; rotate_left; focus (intro w hS; skip; go_simp; try with_reducible rfl)) | (refine held_skip 0 _ rfl (by kernel_rfl) (by kernel_rfl) (by kernel_rfl) (fun _ _ _ h => h) rfl hHeld ?_)
        show wpAnyH _ _ _ _ _ _ _ { tmps := _, defers := _ } _
        try simp only [Act.put, List.setIfInBounds_toArray, List.set_cons_zero, List.set_cons_succ]
        first | (refine held_take 1 _ rfl (by kernel_rfl) (by kernel_rfl) (by kernel_rfl) (v := ?_) (fun _ _ _ h => h) ?_ rfl hHeld ?_; rotate_left; focus (intro w hS; skip; go_simp; try with_reducible rfl)) | (refine held_skip 1 _ rfl (by kernel_rfl) (by kernel_rfl) (by kernel_rfl) (fun _ _ _ h => h) rfl hHeld ?_)
        show wpAnyH _ _ _ _ _ _ _ { tmps := _, defers := _ } _
        try simp only [Act.put, List.setIfInBounds_toArray, List.set_cons_zero, List.set_cons_succ]
        refine held_load 4 _ rfl (by kernel_rfl) (by kernel_rfl) (by kernel_rfl) 24 (.tmp 7) rfl b7 0 (Go.Lib.byteCells D) _ (fun _ _ _ h => h) rfl (fun w h => HC0.out w h) Tryd.underlying24 rfl HYc.out rfl hHeld ?_
        show wpAnyH _ _ _ _ _ _ _ { tmps := _, defers := _ } _
        try simp only [Act.put, List.setIfInBounds_toArray, List.set_cons_zero, List.set_cons_succ]
        refine held_next 2 _ (by kernel_rfl) rfl rfl fun K hK => ?_
        go_simp
        have hH2 : SS ((v6.drew).alloc (.cells #[.slice a2 n2 c2] 29)) := HSS.out _ _ hHeld ((Below.refl _ _).alloc (Nat.le_refl _) _)
        refine hK _ _ hH2 (fun hHeld => ?_)
        clear hK K
        show wpAnyH _ _ _ _ _ _ _ { tmps := _, defers := _ } _
        try simp only [Act.put, List.setIfInBounds_toArray, List.set_cons_zero, List.set_cons_succ]
        refine held_next 3 _ (by kernel_rfl) rfl rfl fun K hK => ?_
        go_simp
        refine (HOne6.out).mono ?_
        rintro e w6 ⟨rfl, hb6⟩
        show K _ _
        have hb6' : Below v6.heap.size v6 w6 := (below_drawn 1 (Below.refl v6.heap.size v6)).trans (show Below v6.heap.size v6.drew w6 from hb6)
        refine hK _ _ (HS0.out _ hb6') (fun hHeld => ?_)
        clear hK K hb6
        show wpAnyH _ _ _ _ _ _ _ { tmps := _, defers := _ } _
        try simp only [Act.put, List.setIfInBounds_toArray, List.set_cons_zero, List.set_cons_succ]
        first | (refine held_take 5 _ rfl (by kernel_rfl) (by kernel_rfl) (by kernel_rfl) (v := ?_) (fun _ _ _ h => h) ?_ rfl hHeld ?_; rotate_left; focus (intro w hS; have h := HSame.out w; go_simp; try with_reducible rfl)) | (refine held_skip 5 _ rfl (by kernel_rfl) (by kernel_rfl) (by kernel_rfl) (fun _ _ _ h => h) rfl hHeld ?_)
        show wpAnyH _ _ _ _ _ _ _ { tmps := _, defers := _ } _
        try simp only [Act.put, List.setIfInBounds_toArray, List.set_cons_zero, List.set_cons_succ]
        first | (refine held_take 6 _ rfl (by kernel_rfl) (by kernel_rfl) (by kernel_rfl) (v := ?_) (fun _ _ _ h => h) ?_ rfl hHeld ?_; rotate_left; focus (intro w hS; skip; go_simp; try with_reducible rfl)) | (refine held_skip 6 _ rfl (by kernel_rfl) (by kernel_rfl) (by kernel_rfl) (fun _ _ _ h => h) rfl hHeld ?_)
        show wpAnyH _ _ _ _ _ _ _ { tmps := _, defers := _ } _
        try simp only [Act.put, List.setIfInBounds_toArray, List.set_cons_zero, List.set_cons_succ]
        first | (refine held_take 7 _ rfl (by kernel_rfl) (by kernel_rfl) (by kernel_rfl) (v := ?_) (fun _ _ _ h => h) ?_ rfl hHeld ?_; rotate_left; focus (intro w hS; skip; go_simp; try with_reducible rfl)) | (refine held_skip 7 _ rfl (by kernel_rfl) (by kernel_rfl) (by kernel_rfl) (fun _ _ _ h => h) rfl hHeld ?_)
        show wpAnyH _ _ _ _ _ _ _ { tmps := _, defers := _ } _
        try simp only [Act.put, List.setIfInBounds_toArray, List.set_cons_zero, List.set_cons_succ]
        first | (refine held_take 8 _ rfl (by kernel_rfl) (by kernel_rfl) (by kernel_rfl) (v := ?_) (fun _ _ _ h => h) ?_ rfl hHeld ?_; rotate_left; focus (intro w hS; skip; go_simp; try with_reducible rfl)) | (refine held_skip 8 _ rfl (by kernel_rfl) (by kernel_rfl) (by kernel_rfl) (fun _ _ _ h => h) rfl hHeld ?_)
        show wpAnyH _ _ _ _ _ _ _ { tmps := _, defers := _ } _
        try simp only [Act.put, List.setIfInBounds_toArray, List.set_cons_zero, List.set_cons_succ]
        refine held_load 10 _ rfl (by kernel_rfl) (by kernel_rfl) (by kernel_rfl) 24 (.tmp 7) rfl b7 0 (Go.Lib.byteCells D) _ (fun _ _ _ h => h) rfl (fun w h => HC0.out w h) Tryd.underlying24 rfl HYc.out rfl hHeld ?_
        show wpAnyH _ _ _ _ _ _ _ { tmps := _, defers := _ } _
        try simp only [Act.put, List.setIfInBounds_toArray, List.set_cons_zero, List.set_cons_succ]
        refine held_next 9 _ (by kernel_rfl) rfl rfl fun K hK => ?_
        go_simp
        refine (HExt.out _ hHeld).mono ?_
        rintro e w7 ⟨rfl, hb7⟩
        show K _ _
        refine hK _ _ (HSS.out _ _ hHeld hb7) (fun hHeld => ?_)
        clear hK K hb7
        show wpAnyH _ _ _ _ _ _ _ { tmps := _, defers := _ } _
        try simp only [Act.put, List.setIfInBounds_toArray, List.set_cons_zero, List.set_cons_succ]
        first | (refine held_take 11 _ rfl (by kernel_rfl) (by kernel_rfl) (by kernel_rfl) (v := ?_) (fun _ _ _ h => h) ?_ rfl hHeld ?_; rotate_left; focus (intro w hS; have h := HSame.out w; go_simp; try with_reducible rfl)) | (refine held_skip 11 _ rfl (by kernel_rfl) (by kernel_rfl) (by kernel_rfl) (fun _ _ _ h => h) rfl hHeld ?_)
        show wpAnyH _ _ _ _ _ _ _ { tmps := _, defers := _ } _
        try simp only [Act.put, List.setIfInBounds_toArray, List.set_cons_zero, List.set_cons_succ]
        first | (refine held_take 12 _ rfl (by kernel_rfl) (by kernel_rfl) (by kernel_rfl) (v := ?_) (fun _ _ _ h => h) ?_ rfl hHeld ?_; rotate_left; focus (intro w hS; skip; go_simp; try with_reducible rfl)) | (refine held_skip 12 _ rfl (by kernel_rfl) (by kernel_rfl) (by kernel_rfl) (fun _ _ _ h => h) rfl hHeld ?_)
        show wpAnyH _ _ _ _ _ _ _ { tmps := _, defers := _ } _
        try simp only [Act.put, List.setIfInBounds_toArray, List.set_cons_zero, List.set_cons_succ]
        first | (refine held_take 13 _ rfl (by kernel_rfl) (by kernel_rfl) (by kernel_rfl) (v := ?_) (fun _ _ _ h => h) ?_ rfl hHeld ?_; rotate_left; focus (intro w hS; skip; go_simp; try with_reducible rfl)) | (refine held_skip 13 _ rfl (by kernel_rfl) (by kernel_rfl) (by kernel_rfl) (fun _ _ _ h => h) rfl hHeld ?_)
        show wpAnyH _ _ _ _ _ _ _ { tmps := _, defers := _ } _
        try simp only [Act.put, List.setIfInBounds_toArray, List.set_cons_zero, List.set_cons_succ]
        refine held_next 14 _ (by kernel_rfl) rfl rfl fun K hK => ?_
        go_simp
        refine (HWakes.out _ (HT.out.below (HSG.out _ hHeld))).mono ?_
        rintro e w9 ⟨rfl, hb9⟩
        show K _ _
        refine hK _ _ (HSS.out _ _ hHeld hb9) (fun hHeld => ?_)
        clear hK K hb9
        show wpAnyH _ _ _ _ _ _ _ { tmps := _, defers := _ } _
        try simp only [Act.put, List.setIfInBounds_toArray, List.set_cons_zero, List.set_cons_succ]
        first | (refine held_take 15 _ rfl (by kernel_rfl) (by kernel_rfl) (by kernel_rfl) (v := ?_) (fun _ _ _ h => h) ?_ rfl hHeld ?_; rotate_left; focus (intro w hS; skip; go_simp; try with_reducible rfl)) | (refine held_skip 15 _ rfl (by kernel_rfl) (by kernel_rfl) (by kernel_rfl) (fun _ _ _ h => h) rfl hHeld ?_)
        show wpAnyH _ _ _ _ _ _ _ { tmps := _, defers := _ } _
        try simp only [Act.put, List.setIfInBounds_toArray, List.set_cons_zero, List.set_cons_succ]
        first | (refine held_take 16 _ rfl (by kernel_rfl) (by kernel_rfl) (by kernel_rfl) (v := ?_) (fun _ _ _ h => h) ?_ rfl hHeld ?_; rotate_left; focus (intro w hS; skip; go_simp; try with_reducible rfl)) | (refine held_skip 16 _ rfl (by kernel_rfl) (by kernel_rfl) (by kernel_rfl) (fun _ _ _ h => h) rfl hHeld ?_)
        show wpAnyH _ _ _ _ _ _ _ { tmps := _, defers := _ } _
        try simp only [Act.put, List.setIfInBounds_toArray, List.set_cons_zero, List.set_cons_succ]
        refine wpAnyH_done (by kernel_rfl) ?_ _
        go_wp2_with fail
        go_ret
        exact ⟨rfl, HSG.out _ hHeld⟩
end Go.Proofs.YtphgaemmbdogmaaDoor
