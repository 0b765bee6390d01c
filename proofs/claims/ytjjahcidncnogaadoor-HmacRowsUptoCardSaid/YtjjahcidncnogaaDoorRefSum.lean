/- The reference's Sum, and its digest of a row: contracts. -/
import Derived.Test.YtjjahcidncnogaaDoorRefWrite
import Derived.Test.YtjjahcidncnogaaDoorHeldE
namespace Go.Proofs.YtjjahcidncnogaaDoor
open Go.ChangeShapes Go.WideShapes Go.ChangeAt Go.RowKit Go.Lib

set_option maxRecDepth 100000 in
set_option maxHeartbeats 8000000 in
theorem refSum_any (st0 : List Int) (hs : st0.length = 8) (bl0 : Int) (l : List UInt8) (q : Option Addr) (c : Nat) (w : World)
    (hn : q = none → restL l = [] ∧ c = 0) (hB : Bytes w.heap.size w.heap.size q (restL l) w) :
    Calls Tryd.prog 74 #[.agg (refK st0 bl0 l (.slice q (l.length % 64) c))] w fun e w' => e = .returned (dig (sumI st0 bl0 l)) ∧ Below w.heap.size w w' := by
  have HST := Lib.hid hs
  have HN := Lib.hid hn
  have HSum : Hid (sumI st0 bl0 l = digI (blocksI ((l ++ padL (lenI bl0 l)).length / 64) st0 (l ++ padL (lenI bl0 l)))) := Lib.hid rfl
  have HNlt := Lib.hid (lenI_lt bl0 l)
  have HLen : Hid (∀ u, Calls Tryd.prog 75 #[.agg (refK st0 bl0 l (.slice q (l.length % 64) c))] u fun e w' => e = .returned (.int .u64 (lenI bl0 l : Int)) ∧ Below u.heap.size u w') := Lib.hid (fun u => by
    have h := refLen_any (blocksI (l.length / 64) st0 l) (by rw [blocksI_length]; exact hs) (blk bl0 (l.length / 64)) q (l.length % 64) c u
    rw [lenI_val] at h
    exact h)
  obtain ⟨N, hN⟩ : ∃ N, lenI bl0 l = N := ⟨_, rfl⟩
  rw [hN] at HSum HNlt HLen
  obtain ⟨d0, hd0⟩ : ∃ d, l.length % 64 = d := ⟨_, rfl⟩
  have HD0 := Lib.hid hd0
  have HS10 : ∀ L v, Hid ((Tryd.prog.info? 30).map (·.size) = some (refK st0 bl0 L v).size) := fun L v => Lib.hid (by rw [refK_size st0 HST.out]; exact sizeRef)
  have HS10l : Hid ((Tryd.prog.info? 30).map (·.size) = some (refK st0 bl0 l (.slice q d0 c)).toList.length) := Lib.hid (by rw [Array.length_toList]; exact (HS10 _ _).out)
  have H1 : ∀ L p n c, Hid ((refK st0 bl0 L (.slice p n c)).all (·.oneCell') = true) := fun L p n c => Lib.hid (refC_one _ _ p n c)
  have HOK : ∀ L v L' v', Hid ((refK st0 bl0 L v).size = (refK st0 bl0 L' v').size) := fun L v L' v' => Lib.hid (by rw [refK_size st0 HST.out, refK_size st0 HST.out])
  rw [hd0] at HLen ⊢
  obtain ⟨C0, hC0⟩ : ∃ C, refK st0 bl0 l (.slice q d0 c) = C := ⟨_, rfl⟩
  have HC0 := Lib.hid hC0
  have HS0' := HS10 l (.slice q d0 c)
  have HOK0 : ∀ L v, Hid (C0.size = (refK st0 bl0 L v).size) := fun L v => Lib.hid (by rw [← hC0]; exact (HOK _ _ _ _).out)
  rw [hC0] at HLen HS10l HS0' ⊢
  obtain ⟨v0, hv0⟩ : ∃ v, v = (w.alloc (.cells C0 30)).alloc (.cells (Go.Lib.byteCells zero32).toArray 47) := ⟨_, rfl⟩
  have HG0 : Hid (Below w.heap.size w v0) := Lib.hid (by rw [hv0]; exact ((Below.refl _ w).alloc (Nat.le_refl _) _).alloc (by simp) _)
  have HA0 : Hid (v0.heap[w.heap.size]? = some (.cells C0 30 (0, 0))) := Lib.hid (by
    rw [hv0, (MapKept.heap_alloc _ _).2 _ (by simp)]; exact (MapKept.heap_alloc w _).1)
  have HR0 : Hid (v0.heap[w.heap.size + 1]? = some (.cells (Go.Lib.byteCells zero32).toArray 47 (0, 0))) := Lib.hid (by
    have h := (MapKept.heap_alloc (w.alloc (.cells C0 30)) (.cells (Go.Lib.byteCells zero32).toArray 47)).1
    rw [← hv0] at h
    rw [show w.heap.size + 1 = (w.alloc (.cells C0 30)).heap.size by simp]
    exact h)
  have HZ0 : Hid (w.heap.size + 2 ≤ v0.heap.size) := Lib.hid (by rw [hv0]; simp)
  have HV0 := Lib.hid hv0.symm
  obtain ⟨SS, hSS⟩ : ∃ SS : World → Prop, SS = fun u => Below (w.heap.size + 2) v0 u := ⟨_, rfl⟩
  have HS0 : Hid (SS v0.drew) := Lib.hid (by rw [hSS]; exact below_drawn 1 (Below.refl _ _))
  have HSb : Hid (∀ u, SS u → Below (w.heap.size + 2) v0 u) := Lib.hid (by rw [hSS]; exact fun u h => h)
  have HSB : Hid (∀ u u', SS u → Below u.heap.size u u' → SS u') := Lib.hid (by rw [hSS]; exact fun u u' h hb => h.trans (hb.mono (by have := h.size; have := HZ0.out; omega)))
  have HSh : Hid (∀ u, SS u → u.heap[w.heap.size]? = some (.cells C0 30 (0, 0))) := Lib.hid (fun u h => ((HSb.out u h).block _ (by omega)).trans HA0.out)
  have HSd : Hid (∀ u, SS u → u.heap[w.heap.size + 1]? = some (.cells (Go.Lib.byteCells zero32).toArray 47 (0, 0))) := Lib.hid (fun u h => ((HSb.out u h).block _ (by omega)).trans HR0.out)
  have HSr : Hid (∀ u, SS u → u.rangeAt w.heap.size 0 C0.toList) := Lib.hid (fun u h j y hy => by
    rw [cell_of_heap (HSh.out u h), Nat.zero_add, ← hy, Array.getElem?_toList])
  have HBq : Hid (∀ u, SS u → Bytes u.heap.size u.heap.size q (restL l) u) := Lib.hid (fun u h => by
    have h1 := HSb.out u h
    have h2 := HG0.out.trans (h1.mono (by omega))
    exact (hB.keep h2).at h2.size h2.size)
  have HSG : Hid (∀ u, SS u → Below w.heap.size w u) := Lib.hid (fun u h => HG0.out.trans ((HSb.out u h).mono (by omega)))
  clear hs hn hB hN hd0 hv0 hSS hC0
  go_enter Tryd.func74, Tryd.ntmps74
  go_wp2_with fail
  refine code_at HV0.out ?_
  refine wp_region_E 5 (S := SS) (by kernel_rfl) HS0.out (fun hHeld => ?_)
  refine heldE_load (by kernel_rfl) 0 _ rfl (by kernel_rfl) (by kernel_rfl) (by kernel_rfl) 30 (.tmp 1) rfl w.heap.size 0 C0.toList _ (fun _ _ _ h => h) rfl (fun w h => HSr.out w h) Tryd.underlying30 rfl HS10l.out rfl hHeld ?_
  show wpAnyE _ _ _ _ _ _ _ _ { tmps := _, defers := _ } _
  try dsimp only
  try simp only [List.setIfInBounds_toArray]
  try simp only [List.set_cons_succ]
  try simp only [List.set_cons_zero]
  refine heldE_load (by kernel_rfl) 1 _ rfl (by kernel_rfl) (by kernel_rfl) (by kernel_rfl) 30 (.tmp 1) rfl w.heap.size 0 C0.toList _ (fun _ _ _ h => h) rfl (fun w h => HSr.out w h) Tryd.underlying30 rfl HS10l.out rfl hHeld ?_
  show wpAnyE _ _ _ _ _ _ _ _ { tmps := _, defers := _ } _
  try dsimp only
  try simp only [List.setIfInBounds_toArray]
  try simp only [List.set_cons_succ]
  try simp only [List.set_cons_zero]
  refine heldE_next 2 _ (by kernel_rfl) rfl rfl fun K hK => ?_
  go_simp
  refine (HLen.out _).mono ?_
  rintro e w2 ⟨rfl, hbx⟩
  show K _ _
  refine hK _ _ (HSB.out _ _ hHeld hbx) (fun hHeld => ?_)
  clear hK K
  show wpAnyE _ _ _ _ _ _ _ _ { tmps := _, defers := _ } _
  try dsimp only
  try simp only [List.setIfInBounds_toArray]
  try simp only [List.set_cons_succ]
  try simp only [List.set_cons_zero]
  refine heldE_next 3 _ (by kernel_rfl) rfl rfl fun K hK => ?_
  go_simp
  refine (refPad_any N HNlt.out _).mono ?_
  rintro e w3 ⟨q3, c3, rfl, ho3, hbx⟩
  have HO3 := Lib.hid ho3
  have HG3 : Hid (SS w3) := Lib.hid (HSB.out _ _ hHeld hbx)
  have HBx := Lib.hid hbx
  show K _ _
  refine hK _ _ (HSB.out _ _ hHeld hbx) (fun hHeld => ?_)
  clear hK K
  show wpAnyE _ _ _ _ _ _ _ _ { tmps := _, defers := _ } _
  try dsimp only
  try simp only [List.setIfInBounds_toArray]
  try simp only [List.set_cons_succ]
  try simp only [List.set_cons_zero]
  refine heldE_next 4 _ (by kernel_rfl) rfl rfl fun K hK => ?_
  go_simp
  have hpl : (padL N).length ≤ 140737488353000 := by rw [padL_length]; have := noughts_lt N; omega
  have hBy : Bytes w3.heap.size w3.heap.size q3 (padL N) w3 := by
    obtain ⟨q9, c9, he, -, hb9⟩ := owns_bytes HO3.out rfl
    simp only [Value.slice.injEq, true_and] at he
    obtain ⟨rfl, rfl⟩ := he
    exact hb9
  have hWr := refWrite_any st0 HST.out bl0 l (padL N) q c q3 c3 w3 HN.out ((HBq.out _ hHeld).at (Nat.le_refl _) (Nat.le_refl _)) hBy hpl
  rw [HD0.out, HC0.out] at hWr
  refine hWr.mono ?_
  rintro e w4 ⟨q4, c4, rfl, ho4, hbx⟩
  have HSS4 := Lib.hid (HSB.out _ _ hHeld hbx)
  show K _ _
  refine hK _ _ (HSB.out _ _ hHeld hbx) (fun hHeld => ?_)
  clear hK K
  show wpAnyE _ _ _ _ _ _ _ _ { tmps := _, defers := _ } _
  try dsimp only
  try simp only [List.setIfInBounds_toArray]
  try simp only [List.set_cons_succ]
  try simp only [List.set_cons_zero]
  refine heldE_last _ (by kernel_rfl) rfl rfl fun K hK => ?_
  refine wp_store_row 30 (.tmp 1) (.tmp 9) rfl w.heap.size (refK st0 bl0 (l ++ padL N) (.slice q4 ((l ++ padL N).length % 64) c4)) rfl rfl 30 _ (HSh.out _ HSS4.out) (HS10 _ _).out (HOK0 _ _).out (H1 _ _ _ _).out ?_
  refine hK _ _ ?_
  clear hK K
  show wpAnyE _ _ _ _ _ _ _ _ { tmps := _, defers := _ } _
  try dsimp only
  try simp only [List.setIfInBounds_toArray]
  try simp only [List.set_cons_succ]
  try simp only [List.set_cons_zero]
  refine wpAnyE_done (by kernel_rfl) ?_ _
  have HF : Hid ((blocksI ((l ++ padL N).length / 64) st0 (l ++ padL N)).length = 8) := Lib.hid (by rw [blocksI_length]; exact HST.out)
  obtain ⟨v5, hv5⟩ : ∃ v, v = w4.setRow w.heap.size (refK st0 bl0 (l ++ padL N) (.slice q4 ((l ++ padL N).length % 64) c4)) := ⟨_, rfl⟩
  have HA5 : Hid (v5.heap[w.heap.size]? = some (.cells (refK st0 bl0 (l ++ padL N) (.slice q4 ((l ++ padL N).length % 64) c4)) 30 (0, 0))) := Lib.hid (by rw [hv5]; exact setRow_heap w4 _ _ _ _ _ (HSh.out _ HSS4.out))
  have HR5 : Hid (v5.heap[w.heap.size + 1]? = some (.cells (Go.Lib.byteCells zero32).toArray 47 (0, 0))) := Lib.hid (by rw [hv5, setRow_other w4 _ _ _ (by omega)]; exact HSd.out _ HSS4.out)
  have HG5 : Hid (Below w.heap.size w v5) := Lib.hid (by rw [hv5]; exact (HSG.out _ HSS4.out).trans ⟨rfl, rfl, rfl, by simp, fun j hj => setRow_other w4 _ j _ (by omega)⟩)
  have HZ5 : Hid (w.heap.size + 2 ≤ v5.heap.size) := Lib.hid (by
    rw [hv5]
    have h1 := (HSb.out _ HSS4.out).size
    have h2 := HZ0.out
    have h3 : (w4.setRow w.heap.size (refK st0 bl0 (l ++ padL N) (.slice q4 ((l ++ padL N).length % 64) c4))).heap.size = w4.heap.size := by simp
    omega)
  have HV5 := Lib.hid hv5.symm
  unfold refK at HA5
  obtain ⟨F, hF⟩ : ∃ F, blocksI ((l ++ padL N).length / 64) st0 (l ++ padL N) = F := ⟨_, rfl⟩
  rw [hF] at HF HA5 HSum
  obtain ⟨BB, hBB⟩ : ∃ BB, blk bl0 ((l ++ padL N).length / 64) = BB := ⟨_, rfl⟩
  rw [hBB] at HA5
  obtain ⟨VV, hVV⟩ : ∃ VV : Value, .slice q4 ((l ++ padL N).length % 64) c4 = VV := ⟨_, rfl⟩
  rw [hVV] at HA5
  rw [HV5.out]
  clear hF hBB hVV hv5 HV5 HSS4 HO3 HG3 HBx hHeld ho4 hbx HBq HSG HSr HSd HSh HSB HSb HS0 HA0 HR0
  obtain ⟨v6, hv6⟩ : ∃ v, v = v5.alloc (.cells (Go.Lib.byteCells (digK F 0)).toArray 47) := ⟨_, rfl⟩
  have HD6 : Hid (v6.heap[v5.heap.size]? = some (.cells (Go.Lib.byteCells (digK F 0)).toArray 47 (0, 0))) := Lib.hid (by rw [hv6]; exact heap_last _ _)
  have HG6 : Hid (Below v5.heap.size v5 v6) := Lib.hid (by rw [hv6]; exact (Below.refl _ _).alloc (Nat.le_refl _) _)
  have HV6 := Lib.hid hv6.symm
  obtain ⟨M, hM⟩ : ∃ M, v5.heap.size = M := ⟨_, rfl⟩
  have HM := Lib.hid hM
  have HX : Hid (∃ i : Nat, Value.int .i64 0 = .int .i64 i ∧ i ≤ 32 ∧ Hid (v6.heap[M]? = some (.cells (Go.Lib.byteCells (digK F i)).toArray 47 (0, 0))) ∧ Hid (Below M v5 v6)) := Lib.hid ⟨0, rfl, by decide, by rw [← hM]; exact HD6, by rw [← hM]; exact HG6⟩
  rw [hM] at HZ5
  clear hv6 HD6 HG6
  go_wp2_with fail
  refine code_at HV6.out ?_
  clear hM
  go_loopw [4] (fun v wr => ∃ i : Nat, v = .int .i64 i ∧ i ≤ 32 ∧ Hid (wr.heap[M]? = some (.cells (Go.Lib.byteCells (digK F i)).toArray 47 (0, 0))) ∧ Hid (Below M v5 wr)) (fun v _ => 32 - (RowKit.intOf v).toNat)
  case atStart => exact HX.out
  case round =>
    clear HX
    obtain ⟨i, rfl, hi, hd, hg⟩ := hrel
    by_cases hlt : i < 32
    · have hdi : decide ((i : Int) < 32) = true := decide_eq_true (by omega)
      have hi32 : (i : Int) < 32 := by omega
      obtain ⟨j, hj⟩ : ∃ j, i / 4 = j := ⟨_, rfl⟩
      have hj8 : j < 8 := by omega
      obtain ⟨sh, hsh⟩ : ∃ sh, 24 - 8 * (i % 4) = sh := ⟨_, rfl⟩
      obtain ⟨x, hx⟩ : ∃ x, F.getD j 0 = x := ⟨_, rfl⟩
      have HVb : Hid (x / 2 ^ sh % 256 = ((byteD F i).toNat : Int)) := Lib.hid (by rw [byteD_val, hj, hx, hsh])
      have cw : wr.cell? ⟨w.heap.size, j, none⟩ = some (.int .u32 x) := by
        have h := (hg.out.block w.heap.size (by have := HZ5.out; omega)).trans HA5.out
        have h2 := refC_range h j (.int .u32 x) (by rw [List.getElem?_map, ← hx, List.getD_eq_getElem?_getD]; have : j < F.length := by { rw [HF.out]; exact hj8 }; rw [List.getElem?_eq_getElem this]; rfl)
        rwa [Nat.zero_add] at h2
      have hl : i < (digK F i).length := by rw [digK_length]; exact hlt
      have cm : wr.cell? ⟨M, i, none⟩ = some (.int .u8 (digK F i)[i].toNat) := by
        rw [cell_of_heap hd.out]
        simp [Go.Lib.byteCells, List.getElem?_eq_getElem hl]
      have fm : wr.frozen? ⟨M, i, none⟩ = false := frozen_of_heap hd.out _
      generalize (digK F i)[i].toNat = y at cm
      have x1 : (i : Int) / 4 = (j : Int) := by omega
      have x2 : (24 : Int) - 8 * ((i : Int) % 4) = (sh : Int) := by omega
      have x3 : (j : Int) < 8 := by omega
      have x4 : (sh : Int) ≤ 32 := by omega
      clear hl hj hsh hx
      go_wp2_with fail
      go_roundw
      case rel =>
        rw [HVb.out]
        refine ⟨i + 1, by go_num, hlt, Lib.hid ?_, Lib.hid (hg.out.setCell (Nat.le_refl _) _)⟩
        rw [Go.Joins.block_setCell hd.out _, List.setIfInBounds_toArray, ← digK_step F i, bc_set]
      case measure => simp [RowKit.intOf]; omega
    · obtain rfl : i = 32 := by omega
      have HIx : Hid ((Tryd.prog.info? 47).map (·.size) = some (Go.Lib.byteCells (digK F 32)).toArray.size) := Lib.hid ((by kernel_rfl : (Tryd.prog.info? 47).map (·.size) = some 32).trans (by rw [List.size_toArray, bc_len, digK_length]))
      have H1x := Lib.hid (dig_one (digK F 32))
      have HOx : Hid ((Go.Lib.byteCells zero32).toArray.size = (Go.Lib.byteCells (digK F 32)).toArray.size) := Lib.hid (by rw [List.size_toArray, List.size_toArray, bc_len, bc_len, digK_length]; rfl)
      have HXe : Hid (Value.agg (Go.Lib.byteCells (digK F 32)).toArray = dig (sumI st0 bl0 l)) := Lib.hid (by rw [HSum.out]; rfl)
      obtain ⟨X, hX⟩ : ∃ X, (Go.Lib.byteCells (digK F 32)).toArray = X := ⟨_, rfl⟩
      rw [hX] at hd HIx H1x HOx HXe
      have HRr : Hid (wr.heap[w.heap.size + 1]? = some (.cells (Go.Lib.byteCells zero32).toArray 47 (0, 0))) := Lib.hid ((hg.out.block _ (by have := HZ5.out; omega)).trans HR5.out)
      have HGr : Hid (Below w.heap.size w wr) := Lib.hid (HG5.out.trans (hg.out.mono (by have := HZ5.out; omega)))
      have HV9 : Hid ((wr.setRow (w.heap.size + 1) X).heap[w.heap.size + 1]? = some (.cells X 47 (0, 0))) := Lib.hid (setRow_heap wr _ _ _ _ _ HRr.out)
      clear hX hlt hi hg
      rw [show ((32 : Nat) : Int) = 32 from rfl]
      go_wp2_with (first
        | (refine wpList_load_row rfl 47 (.tmp 3) rfl M rfl 47 _ (0, 0) _ hd.out Tryd.underlying47 rfl HIx.out ?_)
        | (refine wpList_store_row rfl 47 (.tmp 2) (.tmp 27) rfl (w.heap.size + 1) X rfl rfl 47 _ HRr.out HIx.out HOx.out H1x.out ?_))
      exact bodyPost_ret (results_cell_row rfl _ _ (w.heap.size + 1) 47 X (0, 0) _ rfl HV9.out Tryd.underlying47 rfl HIx.out) rfl ⟨by rw [← HXe.out], HGr.out.trans ⟨rfl, rfl, rfl, by simp, fun k hk => setRow_other wr _ k _ (by omega)⟩⟩

theorem refK_new (v : Value) : refK firstI 0 [] v = refC firstI 0 v := rfl
set_option maxRecDepth 100000 in
set_option maxHeartbeats 4000000 in
/-- The reference's digest of a row is the program's. -/
theorem refOf_any (p : Option Addr) (cap : Nat) (b : List UInt8) (w : World) (hB : Bytes w.heap.size w.heap.size p b w) (hm : b.length ≤ 140737488353000) :
    Calls Tryd.prog 24 #[.slice p b.length cap] w fun e w' => e = .returned (dig (shaL b)) ∧ Below w.heap.size w w' := by
  obtain ⟨D, hD⟩ : ∃ D, shaL b = D := ⟨_, rfl⟩
  have HDl : Hid (D.length = 32) := Lib.hid (by rw [← hD]; exact sumI_length _ _ _)
  have hD' : sumI firstI 0 b = D := hD
  rw [hD]
  unfold dig
  have HIx : Hid ((Tryd.prog.info? 47).map (·.size) = some (Go.Lib.byteCells D).toArray.size) := Lib.hid ((by kernel_rfl : (Tryd.prog.info? 47).map (·.size) = some 32).trans (by rw [List.size_toArray, bc_len, HDl.out]))
  have H1x := Lib.hid (dig_one D)
  have HOx : Hid ((Go.Lib.byteCells zero32).toArray.size = (Go.Lib.byteCells D).toArray.size) := Lib.hid (by rw [List.size_toArray, List.size_toArray, bc_len, bc_len, HDl.out]; rfl)
  obtain ⟨v0, hv0⟩ : ∃ v, v = w.alloc (.cells (Go.Lib.byteCells zero32).toArray 47) := ⟨_, rfl⟩
  have HV0 := Lib.hid hv0.symm
  have HG0 : Hid (Below w.heap.size w v0) := Lib.hid (by rw [hv0]; exact (Below.refl _ w).alloc (Nat.le_refl _) _)
  have HR0 : Hid (v0.heap[w.heap.size]? = some (.cells (Go.Lib.byteCells zero32).toArray 47 (0, 0))) := Lib.hid (by rw [hv0]; exact heap_last _ _)
  have HNew := Lib.hid (refNew_any v0)
  have HB := Lib.hid hB
  have HM := Lib.hid hm
  obtain ⟨n, hnn⟩ : ∃ n, b.length = n := ⟨_, rfl⟩
  have HNN := Lib.hid hnn
  rw [hnn]
  clear hD hv0 hB hm hnn
  go_enter Tryd.func24, Tryd.ntmps24
  go_wp2_with fail
  refine calls_at HV0.out ?_
  refine HNew.out.mono ?_
  rintro e w1 ⟨rfl, hb1⟩
  have HG1 : Hid (Below w.heap.size w w1) := Lib.hid (HG0.out.trans (hb1.mono HG0.out.size))
  have HR1 : Hid (w1.heap[w.heap.size]? = some (.cells (Go.Lib.byteCells zero32).toArray 47 (0, 0))) := Lib.hid ((hb1.block _ (Array.getElem?_eq_some_iff.1 HR0.out).1).trans HR0.out)
  have HW1 := Lib.hid (refWrite_any firstI rfl 0 [] b none 0 p cap w1 (fun _ => ⟨rfl, rfl⟩) (fun h => absurd rfl h) ((HB.out.keep HG1.out).at HG1.out.size HG1.out.size) HM.out)
  rw [HNN.out] at HW1
  rw [← refK_new]
  clear hb1
  go_wp2_with fail
  refine HW1.out.mono ?_
  rintro e w2 ⟨q2, c2, rfl, ho2, hb2⟩
  rw [List.nil_append] at ho2 ⊢
  have HG2 : Hid (Below w.heap.size w w2) := Lib.hid (HG1.out.trans (hb2.mono HG1.out.size))
  have HR2 : Hid (w2.heap[w.heap.size]? = some (.cells (Go.Lib.byteCells zero32).toArray 47 (0, 0))) := Lib.hid ((hb2.block _ (Array.getElem?_eq_some_iff.1 HR1.out).1).trans HR1.out)
  have hnil : q2 = none → restL b = [] ∧ c2 = 0 := fun h => by
    subst h
    rcases ho2.2 with ⟨hh, hn0⟩ | ⟨g, cap', cur, hv, _⟩
    · simp only [Value.slice.injEq, true_and] at hh
      exact ⟨List.eq_nil_of_length_eq_zero (by rw [restL_length]; exact hn0), hh.2⟩
    · cases hv
  have hBy2 : Bytes w2.heap.size w2.heap.size q2 (restL b) w2 := by
    obtain ⟨q9, c9, he, -, hb9⟩ := owns_bytes ho2 (restL_length b)
    simp only [Value.slice.injEq, true_and] at he
    obtain ⟨rfl, rfl⟩ := he
    exact hb9
  have HS2 := Lib.hid (refSum_any firstI rfl 0 b q2 c2 w2 hnil hBy2)
  rw [hD'] at HS2
  unfold dig at HS2
  clear ho2 hb2 hnil hBy2
  go_wp2_with fail
  refine HS2.out.mono ?_
  rintro e w3 ⟨rfl, hb3⟩
  have HG3 : Hid (Below w.heap.size w w3) := Lib.hid (HG2.out.trans (hb3.mono HG2.out.size))
  have HR3 : Hid (w3.heap[w.heap.size]? = some (.cells (Go.Lib.byteCells zero32).toArray 47 (0, 0))) := Lib.hid ((hb3.block _ (Array.getElem?_eq_some_iff.1 HR2.out).1).trans HR2.out)
  clear hb3
  go_wp2_with (refine wpList_store_row rfl 47 (.tmp 2) (.tmp 6) rfl w.heap.size (Go.Lib.byteCells D).toArray rfl rfl 47 _ HR3.out HIx.out HOx.out H1x.out ?_)
  exact bodyPost_ret (results_cell_row rfl _ _ w.heap.size 47 (Go.Lib.byteCells D).toArray (0, 0) _ rfl (setRow_heap w3 _ _ _ _ _ HR3.out) Tryd.underlying47 rfl HIx.out) rfl ⟨rfl, HG3.out.trans ⟨rfl, rfl, rfl, by simp, fun k hk => setRow_other w3 _ k _ (by omega)⟩⟩
end Go.Proofs.YtjjahcidncnogaaDoor
