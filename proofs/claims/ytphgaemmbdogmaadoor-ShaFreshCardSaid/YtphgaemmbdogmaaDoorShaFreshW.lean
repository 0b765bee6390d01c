/- ShaFresh, walked. -/
import Derived.Test.YtphgaemmbdogmaaDoorShaFreshA
namespace Go.Proofs.YtphgaemmbdogmaaDoor
open Go.ChangeShapes Go.WideShapes Go.ChangeAt Go.RowKit Go.Lib

set_option maxRecDepth 100000 in
set_option maxHeartbeats 16000000 in
theorem shaFresh_walk (a : Option Addr) (c : Nat) (l : List UInt8) (x : Int) (W : World) (hT : Tab W) (hn : a = none → l = []) (hB : Bytes W.heap.size W.heap.size a l W) (hm : l.length ≤ 140737488351232) (hc : l.length ≤ c) (hk : a = none → c = 0) (hx : (Lit.int .i64 x).wf = true) :
    Calls Tryd.prog 12 #[.slice a l.length c, .int .i64 x] W fun e w' => e = .returned (.bool true) ∧ Below W.heap.size W w' := by
  have HT := Lib.hid hT
  have HWorks := Lib.hid (fun w (h : Tab w) => works_any w h)
  have HNew := Lib.hid (fun w => new_any w)
  have HClone := Lib.hid (sclone_any a c l W (fun e => ⟨hn e, hk e⟩) hB hm)
  have H1 := Lib.hid (fun w hw => sum_one a c l W hT hB hc hm w hw)
  obtain ⟨D, hD⟩ : ∃ D, sumI firstI 0 l = D := ⟨_, rfl⟩
  have hDl : D.length = 32 := by rw [← hD]; exact sumI_length _ _ _
  have HSame := Lib.hid (fun w => dig_same D hDl w)
  rw [hD] at H1
  unfold dig at H1 HSame
  have HYi := Lib.hid (dig_size D hDl)
  have HYo := Lib.hid (dig_one D)
  have HYs : Hid ((Go.Lib.byteCells zero32).toArray.size = (Go.Lib.byteCells D).toArray.size) := Lib.hid (by rw [List.size_toArray, List.size_toArray, bc_len, bc_len, hDl]; rfl)
  have HYc : Hid ((Tryd.prog.info? 24).map (·.size) = some (Go.Lib.byteCells D).length) := Lib.hid (by rw [bc_len, hDl]; kernel_rfl)
  have HDD := Lib.hid hD
  obtain ⟨n, hnn⟩ : ∃ n, l.length = n := ⟨_, rfl⟩
  have HL := Lib.hid hnn
  rw [hnn] at hm hc H1 HClone ⊢
  have HM := Lib.hid hm
  have HPad := Lib.hid (fun w => pad_ok n (by omega) w)
  clear hT hB hn hnn hD hDl hk hc hm
  go_enter Tryd.func12, Tryd.ntmps12
  go_wp2_with fail
  refine HClone.out.mono ?_
  rintro e w1 ⟨q1, k1, rfl, ho1, hb1⟩
  have HG1 := Lib.hid hb1
  have HO1 := Lib.hid ho1
  clear hb1 ho1
  have HG2 : Hid (Below W.heap.size W (w1.alloc (.cells (Go.Lib.byteCells [7, 7, 7]).toArray 5))) := Lib.hid (HG1.out.alloc HG1.out.size _)
  have HL7 := Lib.hid (lit_bytes w1 [7, 7, 7])
  go_wp2_with (refine wpList_append_piece rfl (.tmp 17) (.tmp 18) rfl W.heap.size _ n l rfl (HO1.out.alloc _) (some ⟨w1.heap.size, 0, none⟩) 3 3 (n + 3) [7, 7, 7] rfl rfl (fun h => by cases h) _ _ HL7.out rfl (by have := HM.out; omega) HG2.out.size ?_)
  intro p2 k2 w2 ho2 hg2
  obtain ⟨g, cur, rfl, hgW, hgl, hnc, hgb, hgc⟩ := owns_some ho2 (by rw [List.length_append, HL.out]; rfl) (by omega)
  have HG3 : Hid (Below W.heap.size W w2) := Lib.hid (HG2.out.grown hg2 HG2.out.size (fun k hk => (HO1.out.lt k hk).1))
  have HGb := Lib.hid hgb
  have HGl := Lib.hid (And.intro hgW hgl)
  have HBl : Hid (∀ j, (hj : j < l.length) → w2.cell? ⟨g, j, none⟩ = some (.int .u8 l[j].toNat)) := Lib.hid (fun j hj => by
    rw [hgc j (by rw [List.length_append]; omega), List.getElem_append_left hj])
  have HCut := Lib.hid (fun w => slice_cut g (n + 3) k2 n (by omega) (by omega) w)
  have HNk : Hid (n ≤ k2) := Lib.hid (by omega)
  have hsl := fun w => HCut.out w
  clear hgb hgW hgl hgc ho2 hg2 hnc
  go_wp2_with fail
  refine (HNew.out _).mono ?_
  rintro e w3 ⟨B, rfl, hBl, hTk3, hb3⟩
  have HBg : Hid (g < B ∧ W.heap.size ≤ B) := Lib.hid (by have := HGl.out; have := HG3.out.size; omega)
  have HTk3 := Lib.hid hTk3
  have HG4 : Hid (Below W.heap.size W w3) := Lib.hid (HG3.out.trans (hb3.mono HG3.out.size))
  have HGb3 : Hid (w3.heap[g]? = some (.cells cur 5 (0, 0))) := Lib.hid ((hb3.block _ (by have := HGl.out; omega)).trans HGb.out)
  have HBl3 : Hid (∀ j, (hj : j < l.length) → w3.cell? ⟨g, j, none⟩ = some (.int .u8 l[j].toNat)) := Lib.hid (fun j hj => by
    rw [hb3.cell (p := ⟨g, j, none⟩) (by have := HGl.out; simp only; omega)]; exact HBl.out j hj)
  clear hBl hTk3 hb3
  go_wp2_with fail
  obtain ⟨v4, hv4⟩ : ∃ v, v = w3.alloc (.cells #[Value.slice (some ⟨g, 0, none⟩) n k2] 29) := ⟨_, rfl⟩
  have HG5 : Hid (Below W.heap.size W v4) := Lib.hid (by rw [hv4]; exact HG4.out.alloc HG4.out.size _)
  have HZ4 : Hid (v4.heap.size = w3.heap.size + 1) := Lib.hid (by rw [hv4]; simp)
  have HTk4 : Hid (Took B firstI 0 [] v4) := Lib.hid (by rw [hv4]; exact HTk3.out.alloc _)
  have HA4 : Hid (Below w3.heap.size w3 v4) := Lib.hid (by rw [hv4]; exact (Below.refl _ _).alloc (Nat.le_refl _) _)
  have HGb4 : Hid (v4.heap[g]? = some (.cells cur 5 (0, 0))) := Lib.hid ((HA4.out.block _ (Array.getElem?_eq_some_iff.1 HGb3.out).1).trans HGb3.out)
  have HBl4 : Hid (∀ j, (hj : j < l.length) → v4.cell? ⟨g, j, none⟩ = some (.int .u8 l[j].toNat)) := Lib.hid (fun j hj => by
    rw [HA4.out.cell (p := ⟨g, j, none⟩) (Array.getElem?_eq_some_iff.1 HGb3.out).1]; exact HBl3.out j hj)
  have HWrite := Lib.hid (write_ok B firstI 0 [] (some ⟨w3.heap.size, 0, none⟩) 1 1 (by decide) (fun _ => some ⟨g, 0, none⟩) (fun _ => k2) (fun _ => l) v4 (HT.out.below HG5.out) HTk4.out (by
    have hz := HZ4.out
    have hlt := HTk3.out.lt
    have hb := HBg.out
    refine parts_oneK (by rw [hv4, cell_of_heap (heap_last _ _), HL.out]; rfl) (by omega) (by omega) ?_ (by rw [HL.out]; exact HNk.out) (by rw [HL.out]; exact HM.out)
    intro _
    exact ⟨g, 0, rfl, by omega, by omega, fun j hj => by rw [Nat.zero_add]; exact HBl4.out j hj⟩) (by rw [cat_one, HL.out]; have := HM.out; simp; omega))
  rw [cat_one, List.nil_append] at HWrite
  rw [← hv4]
  clear hv4
  refine HWrite.out.mono ?_
  rintro e w5 ⟨rfl, hTk5, hb5⟩
  have HTk5 := Lib.hid hTk5
  have HG6 : Hid (Below W.heap.size W w5) := Lib.hid (HG5.out.trans (hb5.below HBg.out.2 HG5.out.size))
  have hg4 : g < v4.heap.size := (Array.getElem?_eq_some_iff.1 HGb4.out).1
  have HGb5 : Hid (w5.heap[g]? = some (.cells cur 5 (0, 0))) := Lib.hid ((hb5.block g hg4 (by have := HBg.out; omega)).trans HGb4.out)
  have HBl5 : Hid (∀ j, (hj : j < l.length) → w5.cell? ⟨g, j, none⟩ = some (.int .u8 l[j].toNat)) := Lib.hid (fun j hj => by
    rw [hb5.cell (p := ⟨g, j, none⟩) hg4 (by have := HBg.out; simp only; omega)]; exact HBl4.out j hj)
  obtain ⟨w6, hcl, hg6⟩ := clear_any w5 g n k2 cur HGb5.out (fun j hj => by rw [HBl5.out j (by rw [HL.out]; exact hj)]; rfl)
  have HG7 : Hid (Below W.heap.size W w6) := Lib.hid (HG6.out.grown hg6 HG6.out.size (fun k hk => by cases hk; exact HGl.out.1))
  have HTk6 : Hid (Took B firstI 0 l w6) := Lib.hid (took_copy HTk5.out (hg6.block B HTk5.out.lt (by have := HBg.out; intro e; cases e; omega)))
  clear hTk5 hb5 hg4 hg6
  go_wp2_with fail
  clear hcl
  obtain ⟨n7, hn7⟩ : ∃ n7, n7 = w6 := ⟨_, rfl⟩
  refine (H1.out _ HG7.out).mono ?_
  rintro e w7 ⟨rfl, hb7⟩
  have HG8 : Hid (Below W.heap.size W w7) := Lib.hid (HG7.out.trans (hb7.mono HG7.out.size))
  have HTk7 : Hid (Took B firstI 0 l w7) := Lib.hid (HTk6.out.keep hb7 HTk6.out.lt)
  obtain ⟨v8, hv8⟩ : ∃ v, v = w7.alloc (.cells (Go.Lib.byteCells D).toArray 24) := ⟨_, rfl⟩
  have HV8 := Lib.hid ((World.setRow_alloc_new w7 (Go.Lib.byteCells zero32).toArray (Go.Lib.byteCells D).toArray 24).trans hv8.symm)
  have HR8 : Hid (v8.heap[w7.heap.size]? = some (.cells (Go.Lib.byteCells D).toArray 24 (0, 0))) := Lib.hid (by rw [hv8]; exact heap_last _ _)
  have HG9 : Hid (Below W.heap.size W v8) := Lib.hid (by rw [hv8]; exact HG8.out.alloc HG8.out.size _)
  have HZ8 : Hid (v8.heap.size = w7.heap.size + 1) := Lib.hid (by rw [hv8]; simp)
  have HTk8 : Hid (Took B firstI 0 l v8) := Lib.hid (by rw [hv8]; exact HTk7.out.alloc _)
  clear hv8 hb7
  go_wp2_with (refine wpList_store_row rfl 24 (.tmp 7) (.tmp 32) rfl w7.heap.size (Go.Lib.byteCells D).toArray rfl rfl 24 (Go.Lib.byteCells zero32).toArray ?hg HYi.out HYs.out HYo.out ?_)
  case hg => exact heap_last _ _
  refine calls_at HV8.out ?_
  obtain ⟨b7, hb7⟩ : ∃ b, w7.heap.size = b := ⟨_, rfl⟩
  have HB7 : Hid (B < b7 ∧ W.heap.size ≤ B ∧ v8.heap.size = b7 + 1) := Lib.hid (by have := HTk7.out.lt; have := HBg.out; have := HZ8.out; omega)
  rw [hb7] at HR8 ⊢
  clear hb7 HZ8
  obtain ⟨d, hd⟩ : ∃ d, l.length % 64 = d := ⟨_, rfl⟩
  obtain ⟨t, ht⟩ : ∃ t, l.drop (64 * (l.length / 64)) = t := ⟨_, rfl⟩
  have HD64 : Hid (d < 64) := Lib.hid (by omega)
  have HTd : Hid (t.length = d) := Lib.hid (by rw [← ht, List.length_drop]; omega)
  have HMid1 := Lib.hid (took_tells HTk8.out (by rw [HL.out]; have := HM.out; omega))
  have HMid2 := Lib.hid (fun w (h : Took B firstI 0 l w) => took_tells h (by rw [HL.out]; have := HM.out; omega))
  obtain ⟨st, hst⟩ : ∃ st, blocksI (l.length / 64) firstI l = st := ⟨_, rfl⟩
  have HSl : Hid (st.length = 8) := Lib.hid (by rw [← hst]; exact blocksI_length _ _ _)
  obtain ⟨kk, hkk⟩ : ∃ k : Nat, l.length / 64 = k := ⟨_, rfl⟩
  rw [hd, ht, hst, hkk] at HMid1 HMid2
  clear hd ht hst hkk
  refine HMid1.out.mono ?_
  rintro e w9 ⟨vm1, rfl, ho9, hb9⟩
  obtain ⟨q1', c1, rfl⟩ := owns_slice ho9
  have HG9' : Hid (Below W.heap.size W w9) := Lib.hid (HG9.out.trans (hb9.mono HG9.out.size))
  have HTk9 : Hid (Took B firstI 0 l w9) := Lib.hid (HTk8.out.keep hb9 HTk8.out.lt)
  have HR9 : Hid (w9.heap[b7]? = some (.cells (Go.Lib.byteCells D).toArray 24 (0, 0))) := Lib.hid ((hb9.block _ (by have := HB7.out; omega)).trans HR8.out)
  have HO9 := Lib.hid ho9
  have HZ9 := Lib.hid hb9.size
  clear ho9 hb9
  go_wp2_with fail
  refine (HMid2.out _ HTk9.out).mono ?_
  rintro e w10 ⟨vm2, rfl, ho10, hb10⟩
  obtain ⟨q2', c2, rfl⟩ := owns_slice ho10
  have HG10 : Hid (Below W.heap.size W w10) := Lib.hid (HG9'.out.trans (hb10.mono HG9'.out.size))
  have HTk10 : Hid (Took B firstI 0 l w10) := Lib.hid (HTk9.out.keep hb10 HTk9.out.lt)
  have HR10 : Hid (w10.heap[b7]? = some (.cells (Go.Lib.byteCells D).toArray 24 (0, 0))) := Lib.hid ((hb10.block _ (Array.getElem?_eq_some_iff.1 HR9.out).1).trans HR9.out)
  have HO10 := Lib.hid ho10
  have HO9' : Hid (w10.ownsRow (v8.heap.size + 1) 5 1 (.slice q1' d c1) d (Go.Lib.byteCells t)) := Lib.hid (owns_keeps HO9.out (fun i _ hi => hb10.block i hi))
  have HK1 : Hid (∀ k, (Value.slice q1' d c1).ownBlock = some k → b7 < k ∧ k < w9.heap.size) := Lib.hid (fun k hk => by have h := HO9.out.lt k hk; have := HB7.out; omega)
  have HK2 : Hid (∀ k, (Value.slice q2' d c2).ownBlock = some k → w9.heap.size < k ∧ k < w10.heap.size) := Lib.hid (fun k hk => by have h := HO10.out.lt k hk; omega)
  have HZ10 := Lib.hid hb10.size
  clear ho10 hb10
  obtain ⟨X1, hX1⟩ : ∃ X, (st.map (Value.int .u32) ++ [Value.int .u64 (kk : Int), Value.slice q1' d c1]).toArray = X := ⟨_, rfl⟩
  obtain ⟨X2, hX2⟩ : ∃ X, (st.map (Value.int .u32) ++ [Value.int .u64 (kk : Int), Value.slice q2' d c2]).toArray = X := ⟨_, rfl⟩
  have HX1 : Hid (X1[9]? = some (.slice q1' d c1)) := Lib.hid (by rw [← hX1, List.getElem?_toArray, List.getElem?_append_right (by simp [HSl.out])]; simp [HSl.out])
  have HX2 : Hid (X2[9]? = some (.slice q2' d c2)) := Lib.hid (by rw [← hX2, List.getElem?_toArray, List.getElem?_append_right (by simp [HSl.out])]; simp [HSl.out])
  have HX1o : Hid (X1.all (·.oneCell') = true) := Lib.hid (by rw [← hX1]; exact mid_one st (kk : Int) q1' d c1)
  have HX2o : Hid (X2.all (·.oneCell') = true) := Lib.hid (by rw [← hX2]; exact mid_one st (kk : Int) q2' d c2)
  have HX1i : Hid ((Tryd.prog.info? 42).map (·.size) = some X1.size) := Lib.hid (by rw [← hX1, show _ = _ from (by simp [HSl.out] : (st.map (Value.int .u32) ++ [Value.int .u64 (kk : Int), Value.slice q1' d c1]).toArray.size = 10)]; exact sizeMid)
  have HX2i : Hid ((Tryd.prog.info? 42).map (·.size) = some X2.size) := Lib.hid (by rw [← hX2, show _ = _ from (by simp [HSl.out] : (st.map (Value.int .u32) ++ [Value.int .u64 (kk : Int), Value.slice q2' d c2]).toArray.size = 10)]; exact sizeMid)
  have HX1z : Hid (zeroMid.toArray.size = X1.size) := Lib.hid (by rw [← hX1]; simp [HSl.out]; rfl)
  have HX2z : Hid (zeroMid.toArray.size = X2.size) := Lib.hid (by rw [← hX2]; simp [HSl.out]; rfl)
  unfold midV
  rw [hX1, hX2]
  clear hX1 hX2
  have HTwo := Lib.hid (two_mids w10 zeroMid.toArray X1 X2)
  have HA8 : Hid (((w10.alloc (.cells zeroMid.toArray 42)).alloc (.cells zeroMid.toArray 42)).heap[w10.heap.size]? = some (.cells zeroMid.toArray 42 (0, 0))) := Lib.hid (by
    rw [(MapKept.heap_alloc _ _).2 _ (by simp), (MapKept.heap_alloc _ _).1])
  have HA9 : Hid ((((w10.alloc (.cells zeroMid.toArray 42)).alloc (.cells zeroMid.toArray 42)).setRow w10.heap.size X1).heap[w10.heap.size + 1]? = some (.cells zeroMid.toArray 42 (0, 0))) := Lib.hid (by
    rw [setRow_other _ _ _ _ (by omega)]
    have h := (MapKept.heap_alloc (w10.alloc (.cells zeroMid.toArray 42)) (.cells zeroMid.toArray 42)).1
    simp only [World.size_alloc] at h
    exact h)
  obtain ⟨v11, hv11⟩ : ∃ v, v = (((w10.alloc (.cells zeroMid.toArray 42)).alloc (.cells zeroMid.toArray 42)).setRow w10.heap.size X1).setRow (w10.heap.size + 1) X2 := ⟨_, rfl⟩
  have HV11 := Lib.hid hv11.symm
  rw [← hv11] at HTwo
  clear hv11
  have HFS : Hid (FS W B b7 w10.heap.size (w10.heap.size + 1) l D (.slice q1' d c1) (.slice q2' d c2) v11) := Lib.hid (by
    obtain ⟨h1, h2, h3, h4⟩ := HTwo.out
    have h7 := HB7.out
    have hlt := (Array.getElem?_eq_some_iff.1 HR10.out).1
    refine ⟨HT.out, HG10.out.trans (h3.mono HG10.out.size), HTk10.out.keep h3 HTk10.out.lt, (h3.block _ hlt).trans HR10.out, ⟨X1, h1, HX1.out⟩, ⟨X2, h2, HX2.out⟩, h7.2.1, h7.1, hlt, by omega, by omega⟩)
  have HP1 : Hid (v11.ownsRow (b7 + 1) 5 1 (.slice q1' d c1) d (Go.Lib.byteCells t)) := Lib.hid (owns_base (owns_keeps HO9'.out (fun i _ hi => HTwo.out.2.2.1.block i hi)) (by have := HB7.out; omega))
  have HP2 : Hid (v11.ownsRow (b7 + 1) 5 1 (.slice q2' d c2) d (Go.Lib.byteCells t)) := Lib.hid (owns_base (owns_keeps HO10.out (fun i _ hi => HTwo.out.2.2.1.block i hi)) (by have := HB7.out; have := HZ9.out; omega))
  have HF1 := HFS.out.c1
  obtain ⟨b8, hb8⟩ : ∃ b, w10.heap.size = b := ⟨_, rfl⟩
  have HK1' : Hid (∀ k, (Value.slice q1' d c1).ownBlock = some k → b7 < k ∧ k < b8) := Lib.hid (fun k hk => by have h := HK1.out k hk; have := HZ10.out; omega)
  have HK2' : Hid (∀ k, (Value.slice q2' d c2).ownBlock = some k → b7 < k ∧ k < b8) := Lib.hid (fun k hk => by have h := HK2.out k hk; have := HZ9.out; have := HB7.out; omega)
  have HK12 : Hid (∀ k, (Value.slice q1' d c1).ownBlock = some k → (Value.slice q2' d c2).ownBlock ≠ some k) := Lib.hid (fun k hk e => by have h := HK1.out k hk; have h2 := HK2.out k e; omega)
  have HB8 := Lib.hid hb8
  clear hb8
  clear HO9 HO9' HO10 HK1 HK2 HZ9 HZ10 HTwo HX1 HX2 HMid1 HMid2 HTk9 HTk10 HR9 HR10 HG10 HTk8 HR8 HG9 HG9'
  go_wp2_with (first
    | (refine wpList_store_row rfl 42 (.tmp 8) (.tmp 34) rfl w10.heap.size X1 rfl rfl 42 zeroMid.toArray HA8.out HX1i.out HX1z.out HX1o.out ?_)
    | (refine wpList_store_row rfl 42 (.tmp 9) (.tmp 36) rfl (w10.heap.size + 1) X2 rfl rfl 42 zeroMid.toArray HA9.out HX2i.out HX2z.out HX2o.out ?_; refine wpList_world HV11.out ?_; rw [HB8.out] at HF1 HFS ⊢; clear HA8 HA9 HV11 HB8; have hF1 := HF1.1))
  have HS0 : Hid (∃ i : Nat, Value.int .i64 0 = .int .i64 (i : Int) ∧ i ≤ d ∧ Hid (FS W B b7 b8 (b8 + 1) l D (.slice q1' d c1) (.slice q2' d c2) v11) ∧ Hid (v11.ownsRow (b7 + 1) 5 1 (.slice q1' d c1) d (Go.Lib.byteCells (flipTo t i))) ∧
    Hid (v11.ownsRow (b7 + 1) 5 1 (.slice q2' d c2) d (Go.Lib.byteCells t))) := Lib.hid ⟨0, rfl, Nat.zero_le _, HFS, HP1, HP2⟩
  clear HF1 hF1 HFS HP1 HP2
  go_loopw [40] (fun v wr => ∃ i : Nat, v = .int .i64 (i : Int) ∧ i ≤ d ∧ Hid (FS W B b7 b8 (b8 + 1) l D (.slice q1' d c1) (.slice q2' d c2) wr) ∧ Hid (wr.ownsRow (b7 + 1) 5 1 (.slice q1' d c1) d (Go.Lib.byteCells (flipTo t i))) ∧
    Hid (wr.ownsRow (b7 + 1) 5 1 (.slice q2' d c2) d (Go.Lib.byteCells t))) (fun v _ => d - (RowKit.intOf v).toNat)
  case atStart => exact HS0.out
  case round =>
    clear HS0
    obtain ⟨i, rfl, hi, hF, hp1, hp2⟩ := hrel
    have hF1 := hF.out.c1.1
    by_cases hlt : i < d
    · obtain ⟨g1, cur1, rfl, -, -, hdc, hgb1, hgc1⟩ := owns_some hp1.out (by rw [flipTo_length, HTd.out]) (by omega)
      have hK := HK1'.out g1 rfl
      have hO := hF.out.ord
      have e1 := hgc1 i (by rw [flipTo_length, HTd.out]; exact hlt)
      have e2 : (flipTo t i)[i]'(by rw [flipTo_length, HTd.out]; exact hlt) = t.getD i 0 := by
        have h := flipTo_get t i (by rw [HTd.out]; exact hlt)
        rw [List.getD_eq_getElem?_getD, List.getElem?_eq_getElem (by rw [flipTo_length, HTd.out]; exact hlt)] at h
        exact h
      rw [e2] at e1
      have f1 : wr.frozen? ⟨g1, i, none⟩ = false := frozen_of_heap hgb1 _
      have e3 := flipTo_step t i (by rw [HTd.out]; exact hlt)
      obtain ⟨z, hz⟩ : ∃ z, t.getD i 0 = z := ⟨_, rfl⟩
      rw [hz] at e1 e3
      have hx1 := flip_val z
      obtain ⟨y, hy⟩ : ∃ y : Nat, (z ^^^ 255).toNat = y := ⟨_, rfl⟩
      have HP1' : Hid ((wr.setCell ⟨g1, i, none⟩ (.int .u8 (y : Int))).ownsRow (b7 + 1) 5 1 (.slice (some ⟨g1, 0, none⟩) d c1) d (Go.Lib.byteCells (flipTo t (i + 1)))) := Lib.hid (by
        have h := (hp1.out.stored i (.int .u8 (y : Int))).1
        rw [← hy, bc_set, e3] at h
        rw [← hy]
        exact h)
      have hg := grown_setCell wr g1 i (.int .u8 (y : Int))
      have HF' : Hid (FS W B b7 b8 (b8 + 1) l D (.slice (some ⟨g1, 0, none⟩) d c1) (.slice q2' d c2) (wr.setCell ⟨g1, i, none⟩ (.int .u8 (y : Int)))) := Lib.hid (hF.out.grown hg (fun k hk => by cases hk; omega))
      have HP2' : Hid ((wr.setCell ⟨g1, i, none⟩ (.int .u8 (y : Int))).ownsRow (b7 + 1) 5 1 (.slice q2' d c2) d (Go.Lib.byteCells t)) := Lib.hid (hp2.out.kept hg (.inr (HK12.out g1 rfl)))
      rw [hy] at hx1
      obtain ⟨u, hu⟩ : ∃ u : Nat, z.toNat = u := ⟨_, rfl⟩
      rw [hu] at e1 hx1
      have hd : decide ((i : Int) < (d : Int)) = true := decide_eq_true (by omega)
      have hd64 : (d : Int) < 64 := by have := HD64.out; omega
      have hti : (i : Int) < (d : Int) := by omega
      clear e2 e3 hz hy hu hgc1 hgb1 hK hO hF hp1 hp2 hg
      go_wp2_with fail
      go_roundw
      case rel => exact ⟨i + 1, by go_num, hlt, HF', HP1', HP2'⟩
      case measure => simp [RowKit.intOf]; omega
    · obtain rfl : d = i := by omega
      have hd : decide ((d : Int) < (d : Int)) = false := decide_eq_false (by omega)
      obtain ⟨wq, hwq⟩ : ∃ wq : World, wq = wr := ⟨_, rfl⟩
      rw [← hwq] at hF hp1 hp2 hF1 ⊢
      clear hwq hlt hi
      have HL4 := Lib.hid (lit_bytes wq [1, 2, 3, 4])
      have HF12 : Hid (FS W B b7 b8 (b8 + 1) l D (.slice q1' d c1) (.slice q2' d c2) (wq.alloc (.cells (Go.Lib.byteCells [1, 2, 3, 4]).toArray 5))) := Lib.hid (hF.out.below ((Below.refl _ _).alloc (Nat.le_refl _) _))
      have HQ1 := Lib.hid (hp1.out.alloc (.cells (Go.Lib.byteCells [1, 2, 3, 4]).toArray 5))
      have HQ2 := Lib.hid (hp2.out.alloc (.cells (Go.Lib.byteCells [1, 2, 3, 4]).toArray 5))
      have HO := Lib.hid hF.out.ord
      have HBase : Hid (b7 + 1 ≤ (wq.alloc (.cells (Go.Lib.byteCells [1, 2, 3, 4]).toArray 5)).heap.size) := Lib.hid (by have := HF12.out.ord; omega)
      clear hF hp1 hp2
      go_wp2_with (refine wpList_append_where rfl (.tmp 52) (.tmp 53) rfl (b7 + 1) _ d (flipTo t d) rfl HQ1.out ⟨wq.heap.size, 0, none⟩ 4 4 (d + 4) [1, 2, 3, 4] rfl rfl (by decide) _ _ HL4.out rfl (by have := HD64.out; omega) HBase.out ?_)
      intro p3 k3 w13 ho13 hg13 hk13
      have HF13 : Hid (FS W B b7 b8 (b8 + 1) l D (.slice q1' d c1) (.slice q2' d c2) w13) := Lib.hid (HF12.out.grown hg13 (fun k hk => by have h := HK1'.out k hk; have := HO.out; omega))
      have HQ2' : Hid (w13.ownsRow (b7 + 1) 5 1 (.slice q2' d c2) d (Go.Lib.byteCells t)) := Lib.hid (HQ2.out.kept hg13 (by
        cases hq : (Value.slice q2' d c2).ownBlock with
        | none => exact .inl rfl
        | some k => exact .inr (fun e => HK12.out k e.symm hq)))
      obtain ⟨g3, cur3, rfl, hg3a, hg3b, hg3c, hg3d, hg3e⟩ := owns_some ho13 (by rw [List.length_append, flipTo_length, HTd.out]; rfl) (by omega)
      have HK3 : Hid (b7 < g3 ∧ g3 ≠ b8 ∧ g3 ≠ b8 + 1 ∧ (Value.slice q2' d c2).ownBlock ≠ some g3) := Lib.hid (by
        have ho := HO.out
        rcases hk13 g3 rfl with h | h
        · have h1 := HK1'.out g3 h
          exact ⟨h1.1, by omega, by omega, HK12.out g3 h⟩
        · refine ⟨by omega, by omega, by omega, fun e => ?_⟩
          have h2 := HK2'.out g3 e
          omega)
      have HO13 := Lib.hid ho13
      have hF13 := HF13.out.c1
      have hF13a := hF13.1
      have hF13b := hF13.2
      have hF13c := HF13.out.c2.1
      have hsz13 : (w13.setCell ⟨b8, 9, none⟩ (.slice (some ⟨g3, 0, none⟩) (d + 4) k3)).heap.size = w13.heap.size := by simp
      have hg14 := grown_setCell w13 b8 9 (.slice (some ⟨g3, 0, none⟩) (d + 4) k3)
      have HF14 : Hid (FS W B b7 b8 (b8 + 1) l D (.slice (some ⟨g3, 0, none⟩) (d + 4) k3) (.slice q2' d c2) ((w13.setCell ⟨b8, 9, none⟩ (.slice (some ⟨g3, 0, none⟩) (d + 4) k3)).alloc (.cells (Go.Lib.byteCells [5, 6, 7, 8]).toArray 5))) := Lib.hid ((HF13.out.set1 _).below ((Below.refl _ _).alloc (Nat.le_refl _) _))
      have HR1 : Hid (((w13.setCell ⟨b8, 9, none⟩ (.slice (some ⟨g3, 0, none⟩) (d + 4) k3)).alloc (.cells (Go.Lib.byteCells [5, 6, 7, 8]).toArray 5)).ownsRow (b7 + 1) 5 1 (.slice (some ⟨g3, 0, none⟩) (d + 4) k3) (d + 4) (Go.Lib.byteCells (flipTo t d ++ [1, 2, 3, 4]))) := Lib.hid ((HO13.out.kept hg14 (.inr (fun e => HK3.out.2.1 (by cases e; rfl)))).alloc _)
      have HR2 : Hid (((w13.setCell ⟨b8, 9, none⟩ (.slice (some ⟨g3, 0, none⟩) (d + 4) k3)).alloc (.cells (Go.Lib.byteCells [5, 6, 7, 8]).toArray 5)).ownsRow (b7 + 1) 5 1 (.slice q2' d c2) d (Go.Lib.byteCells t)) := Lib.hid ((HQ2'.out.kept hg14 (.inr (fun e => by have h := HK2'.out b8 e; omega))).alloc _)
      have HL8 : Hid (Bytes ((w13.setCell ⟨b8, 9, none⟩ (.slice (some ⟨g3, 0, none⟩) (d + 4) k3)).alloc (.cells (Go.Lib.byteCells [5, 6, 7, 8]).toArray 5)).heap.size ((w13.setCell ⟨b8, 9, none⟩ (.slice (some ⟨g3, 0, none⟩) (d + 4) k3)).alloc (.cells (Go.Lib.byteCells [5, 6, 7, 8]).toArray 5)).heap.size (some ⟨w13.heap.size, 0, none⟩) [5, 6, 7, 8] ((w13.setCell ⟨b8, 9, none⟩ (.slice (some ⟨g3, 0, none⟩) (d + 4) k3)).alloc (.cells (Go.Lib.byteCells [5, 6, 7, 8]).toArray 5))) := Lib.hid (by
        have h := lit_bytes (w13.setCell ⟨b8, 9, none⟩ (.slice (some ⟨g3, 0, none⟩) (d + 4) k3)) [5, 6, 7, 8]
        rw [hsz13] at h
        exact h)
      have HBase2 : Hid (b7 + 1 ≤ ((w13.setCell ⟨b8, 9, none⟩ (.slice (some ⟨g3, 0, none⟩) (d + 4) k3)).alloc (.cells (Go.Lib.byteCells [5, 6, 7, 8]).toArray 5)).heap.size) := Lib.hid (by have := HF14.out.ord; omega)
      have HSz14 : Hid (((w13.setCell ⟨b8, 9, none⟩ (.slice (some ⟨g3, 0, none⟩) (d + 4) k3)).alloc (.cells (Go.Lib.byteCells [5, 6, 7, 8]).toArray 5)).heap.size = w13.heap.size + 1) := Lib.hid (by simp)
      have HSz13 : Hid (b8 + 1 < w13.heap.size) := Lib.hid HF13.out.ord.2.2.2.2
      clear hF13 HF13 HQ1 HQ2 HF12 HL4 hg13 hk13 ho13 hg3a hg3b hg3c hg3d hg3e hF1 hsz13 hg14
      go_wp2_with (refine wpList_append_where rfl (.tmp 57) (.tmp 58) rfl (b7 + 1) _ d t rfl HR2.out ⟨w13.heap.size, 0, none⟩ 4 4 (d + 4) [5, 6, 7, 8] rfl rfl (by decide) _ _ HL8.out rfl (by have := HD64.out; omega) HBase2.out ?_)
      intro p4 k4 w15 ho15 hg15 hk15
      have HF15 : Hid (FS W B b7 b8 (b8 + 1) l D (.slice (some ⟨g3, 0, none⟩) (d + 4) k3) (.slice q2' d c2) w15) := Lib.hid (HF14.out.grown hg15 (fun k hk => by have h := HK2'.out k hk; have := HO.out; omega))
      have HR1' : Hid (w15.ownsRow (b7 + 1) 5 1 (.slice (some ⟨g3, 0, none⟩) (d + 4) k3) (d + 4) (Go.Lib.byteCells (flipTo t d ++ [1, 2, 3, 4]))) := Lib.hid (HR1.out.kept hg15 (.inr (fun e => HK3.out.2.2.2 e.symm)))
      obtain ⟨g4, cur4, rfl, hg4a, hg4b, hg4c, hg4d, hg4e⟩ := owns_some ho15 (by rw [List.length_append, HTd.out]; rfl) (by omega)
      have hF15a := HF15.out.c2.1
      have hF15b := HF15.out.c2.2
      have HO15 := Lib.hid ho15
      have HFin : Hid (FS W B b7 b8 (b8 + 1) l D (.slice (some ⟨g3, 0, none⟩) (d + 4) k3) (.slice (some ⟨g4, 0, none⟩) (d + 4) k4) (w15.setCell ⟨b8 + 1, 9, none⟩ (.slice (some ⟨g4, 0, none⟩) (d + 4) k4))) := Lib.hid (HF15.out.set2 _)
      have hg16 := grown_setCell w15 (b8 + 1) 9 (.slice (some ⟨g4, 0, none⟩) (d + 4) k4)
      have HS1 : Hid ((w15.setCell ⟨b8 + 1, 9, none⟩ (.slice (some ⟨g4, 0, none⟩) (d + 4) k4)).ownsRow (b7 + 1) 5 1 (.slice (some ⟨g3, 0, none⟩) (d + 4) k3) (d + 4) (Go.Lib.byteCells (flipTo t d ++ [1, 2, 3, 4]))) := Lib.hid (HR1'.out.kept hg16 (.inr (fun e => HK3.out.2.2.1 (by cases e; rfl))))
      have HS2 : Hid ((w15.setCell ⟨b8 + 1, 9, none⟩ (.slice (some ⟨g4, 0, none⟩) (d + 4) k4)).ownsRow (b7 + 1) 5 1 (.slice (some ⟨g4, 0, none⟩) (d + 4) k4) (d + 4) (Go.Lib.byteCells (t ++ [5, 6, 7, 8]))) := Lib.hid (HO15.out.kept hg16 (.inr (fun e => by
        have hge : g4 = b8 + 1 := by cases e; rfl
        have ho := HO.out
        have hz := HSz13.out
        rcases hk15 g4 rfl with h | h
        · have := HK2'.out g4 h; omega
        · have h2 : w13.heap.size + 1 ≤ g4 := by
            have h3 := HSz14.out
            omega
          omega)))
      obtain ⟨v16, hv16⟩ : ∃ v, v = w15.setCell ⟨b8 + 1, 9, none⟩ (.slice (some ⟨g4, 0, none⟩) (d + 4) k4) := ⟨_, rfl⟩
      rw [← hv16] at HFin HS1 HS2
      have HV16 := Lib.hid hv16.symm
      clear HF15 HR1' HR1 HR2 HF14 HL8 hg15 hk15 ho15 hg4a hg4b hg4c hg4d hg4e hg16 hv16 hF13a hF13b hF13c
      go_wp2_with fail
      refine code_at HV16.out ?_
      clear HV16 hF15a hF15b
      obtain ⟨SS, hSS⟩ : ∃ SS : World → Prop, SS = fun w => Below v16.heap.size v16 w := ⟨_, rfl⟩
      have HS0' : Hid (∀ w, Below v16.heap.size v16 w → SS w) := Lib.hid (by rw [hSS]; exact fun w h => h)
      have HSB : Hid (∀ w, SS w → Below v16.heap.size v16 w) := Lib.hid (by rw [hSS]; exact fun w h => h)
      have HSS : Hid (∀ w w', SS w → Below w.heap.size w w' → SS w') := Lib.hid (fun w w' h hb => HS0'.out w' ((HSB.out w h).trans (hb.mono (HSB.out w h).size)))
      have HFw : Hid (∀ w, SS w → FS W B b7 b8 (b8 + 1) l D (.slice (some ⟨g3, 0, none⟩) (d + 4) k3) (.slice (some ⟨g4, 0, none⟩) (d + 4) k4) w) := Lib.hid (fun w h => HFin.out.below (HSB.out w h))
      have HC0 : Hid (∀ w, SS w → w.rangeAt b7 0 (Go.Lib.byteCells D)) := Lib.hid (fun w h j y hy => by rw [cell_of_heap (HFw.out w h).want, Nat.zero_add, List.getElem?_toArray, hy])
      have HC1 : Hid (∀ w, SS w → w.cell? ⟨b8, 9, none⟩ = some (.slice (some ⟨g3, 0, none⟩) (d + 4) k3)) := Lib.hid (fun w h => (HFw.out w h).c1.1)
      have HC2 : Hid (∀ w, SS w → w.cell? ⟨b8 + 1, 9, none⟩ = some (.slice (some ⟨g4, 0, none⟩) (d + 4) k4)) := Lib.hid (fun w h => (HFw.out w h).c2.1)
      have HSumB : Hid (∀ w, SS w → Calls Tryd.prog 22 #[.pointer (some ⟨B, 0, none⟩)] w fun e w' => e = .returned (.agg (Go.Lib.byteCells D).toArray) ∧ Below w.heap.size w w') := Lib.hid (fun w h => by
        have k := sum_any B firstI 0 l w (HFw.out w h).tab (HFw.out w h).tk
        rw [HDD.out] at k
        unfold dig at k
        exact k)
      have hHeld0 : SS v16.drew := HS0'.out _ (below_drawn 1 (Below.refl _ _))
      clear hSS
      refine wp_region_held_drew (S := SS) (by kernel_rfl) hHeld0 (fun hHeld => ?_)
      clear hHeld0
      first | (refine held_take 0 _ rfl (by kernel_rfl) (by kernel_rfl) (by kernel_rfl) (v := ?_) (fun _ _ _ h => h) ?_ rfl hHeld ?_; rotate_left; focus (intro w hS; skip; go_simp; try with_reducible rfl)) | (refine held_skip 0 _ rfl (by kernel_rfl) (by kernel_rfl) (by kernel_rfl) (fun _ _ _ h => h) rfl hHeld ?_)
      show wpAnyH _ _ _ _ _ _ _ { tmps := _, defers := _ } _
      try simp only [Act.put, List.setIfInBounds_toArray, List.set_cons_zero, List.set_cons_succ]
      refine held_load 2 _ rfl (by kernel_rfl) (by kernel_rfl) (by kernel_rfl) 24 (.tmp 7) rfl b7 0 (Go.Lib.byteCells D) _ (fun _ _ _ h => h) rfl (fun w h => HC0.out w h) Tryd.underlying24 rfl HYc.out rfl hHeld ?_
      show wpAnyH _ _ _ _ _ _ _ { tmps := _, defers := _ } _
      try simp only [Act.put, List.setIfInBounds_toArray, List.set_cons_zero, List.set_cons_succ]
      refine held_next 1 _ (by kernel_rfl) rfl rfl fun K hK => ?_
      go_simp
      refine (HSumB.out _ hHeld).mono ?_
      rintro e w17 ⟨rfl, hb⟩
      show K _ _
      refine hK _ _ (HSS.out _ _ hHeld hb) (fun hHeld => ?_)
      clear hK K hb
      show wpAnyH _ _ _ _ _ _ _ { tmps := _, defers := _ } _
      try simp only [Act.put, List.setIfInBounds_toArray, List.set_cons_zero, List.set_cons_succ]
      first | (refine held_take 3 _ rfl (by kernel_rfl) (by kernel_rfl) (by kernel_rfl) (v := ?_) (fun _ _ _ h => h) ?_ rfl hHeld ?_; rotate_left; focus (intro w hS; have h := HSame.out w; go_simp; try with_reducible rfl)) | (refine held_skip 3 _ rfl (by kernel_rfl) (by kernel_rfl) (by kernel_rfl) (fun _ _ _ h => h) rfl hHeld ?_)
      show wpAnyH _ _ _ _ _ _ _ { tmps := _, defers := _ } _
      try simp only [Act.put, List.setIfInBounds_toArray, List.set_cons_zero, List.set_cons_succ]
      first | (refine held_take 4 _ rfl (by kernel_rfl) (by kernel_rfl) (by kernel_rfl) (v := ?_) (fun _ _ _ h => h) ?_ rfl hHeld ?_; rotate_left; focus (intro w hS; skip; go_simp; try with_reducible rfl)) | (refine held_skip 4 _ rfl (by kernel_rfl) (by kernel_rfl) (by kernel_rfl) (fun _ _ _ h => h) rfl hHeld ?_)
      show wpAnyH _ _ _ _ _ _ _ { tmps := _, defers := _ } _
      try simp only [Act.put, List.setIfInBounds_toArray, List.set_cons_zero, List.set_cons_succ]
      first | (refine held_take 5 _ rfl (by kernel_rfl) (by kernel_rfl) (by kernel_rfl) (v := ?_) (fun _ _ _ h => h) ?_ rfl hHeld ?_; rotate_left; focus (intro w hS; skip; go_simp; try with_reducible rfl)) | (refine held_skip 5 _ rfl (by kernel_rfl) (by kernel_rfl) (by kernel_rfl) (fun _ _ _ h => h) rfl hHeld ?_)
      show wpAnyH _ _ _ _ _ _ _ { tmps := _, defers := _ } _
      try simp only [Act.put, List.setIfInBounds_toArray, List.set_cons_zero, List.set_cons_succ]
      first | (refine held_take 6 _ rfl (by kernel_rfl) (by kernel_rfl) (by kernel_rfl) (v := ?_) (fun _ _ _ h => h) ?_ rfl hHeld ?_; rotate_left; focus (intro w hS; have h := HC1.out w hS; go_simp; try with_reducible rfl)) | (refine held_skip 6 _ rfl (by kernel_rfl) (by kernel_rfl) (by kernel_rfl) (fun _ _ _ h => h) rfl hHeld ?_)
      show wpAnyH _ _ _ _ _ _ _ { tmps := _, defers := _ } _
      try simp only [Act.put, List.setIfInBounds_toArray, List.set_cons_zero, List.set_cons_succ]
      first | (refine held_take 7 _ rfl (by kernel_rfl) (by kernel_rfl) (by kernel_rfl) (v := ?_) (fun _ _ _ h => h) ?_ rfl hHeld ?_; rotate_left; focus (intro w hS; skip; go_simp; try with_reducible rfl)) | (refine held_skip 7 _ rfl (by kernel_rfl) (by kernel_rfl) (by kernel_rfl) (fun _ _ _ h => h) rfl hHeld ?_)
      show wpAnyH _ _ _ _ _ _ _ { tmps := _, defers := _ } _
      try simp only [Act.put, List.setIfInBounds_toArray, List.set_cons_zero, List.set_cons_succ]
      first | (refine held_take 8 _ rfl (by kernel_rfl) (by kernel_rfl) (by kernel_rfl) (v := ?_) (fun _ _ _ h => h) ?_ rfl hHeld ?_; rotate_left; focus (intro w hS; skip; go_simp; try with_reducible rfl)) | (refine held_skip 8 _ rfl (by kernel_rfl) (by kernel_rfl) (by kernel_rfl) (fun _ _ _ h => h) rfl hHeld ?_)
      show wpAnyH _ _ _ _ _ _ _ { tmps := _, defers := _ } _
      try simp only [Act.put, List.setIfInBounds_toArray, List.set_cons_zero, List.set_cons_succ]
      first | (refine held_take 9 _ rfl (by kernel_rfl) (by kernel_rfl) (by kernel_rfl) (v := ?_) (fun _ _ _ h => h) ?_ rfl hHeld ?_; rotate_left; focus (intro w hS; have h := HC2.out w hS; go_simp; try with_reducible rfl)) | (refine held_skip 9 _ rfl (by kernel_rfl) (by kernel_rfl) (by kernel_rfl) (fun _ _ _ h => h) rfl hHeld ?_)
      show wpAnyH _ _ _ _ _ _ _ { tmps := _, defers := _ } _
      try simp only [Act.put, List.setIfInBounds_toArray, List.set_cons_zero, List.set_cons_succ]
      first | (refine held_take 10 _ rfl (by kernel_rfl) (by kernel_rfl) (by kernel_rfl) (v := ?_) (fun _ _ _ h => h) ?_ rfl hHeld ?_; rotate_left; focus (intro w hS; skip; go_simp; try with_reducible rfl)) | (refine held_skip 10 _ rfl (by kernel_rfl) (by kernel_rfl) (by kernel_rfl) (fun _ _ _ h => h) rfl hHeld ?_)
      show wpAnyH _ _ _ _ _ _ _ { tmps := _, defers := _ } _
      try simp only [Act.put, List.setIfInBounds_toArray, List.set_cons_zero, List.set_cons_succ]
      first | (refine held_take 11 _ rfl (by kernel_rfl) (by kernel_rfl) (by kernel_rfl) (v := ?_) (fun _ _ _ h => h) ?_ rfl hHeld ?_; rotate_left; focus (intro w hS; skip; go_simp; try with_reducible rfl)) | (refine held_skip 11 _ rfl (by kernel_rfl) (by kernel_rfl) (by kernel_rfl) (fun _ _ _ h => h) rfl hHeld ?_)
      show wpAnyH _ _ _ _ _ _ _ { tmps := _, defers := _ } _
      try simp only [Act.put, List.setIfInBounds_toArray, List.set_cons_zero, List.set_cons_succ]
      first | (refine held_take 12 _ rfl (by kernel_rfl) (by kernel_rfl) (by kernel_rfl) (v := ?_) (fun _ _ _ h => h) ?_ rfl hHeld ?_; rotate_left; focus (intro w hS; skip; go_simp; try with_reducible rfl)) | (refine held_skip 12 _ rfl (by kernel_rfl) (by kernel_rfl) (by kernel_rfl) (fun _ _ _ h => h) rfl hHeld ?_)
      show wpAnyH _ _ _ _ _ _ _ { tmps := _, defers := _ } _
      try simp only [Act.put, List.setIfInBounds_toArray, List.set_cons_zero, List.set_cons_succ]
      refine wpAnyH_done (by kernel_rfl) ?_ _
      have HF17 := Lib.hid (HFw.out _ hHeld)
      have HB17 := Lib.hid (HSB.out _ hHeld)
      have HT1 := Lib.hid (owns_keeps HS1.out (fun i _ hi => HB17.out.block i hi))
      have HT2 := Lib.hid (owns_keeps HS2.out (fun i _ hi => HB17.out.block i hi))
      have hT1 := HF17.out.c1.1
      have HCut3 := Lib.hid (fun w => slice_cut g3 (d + 4) k3 d (by have := owns_cap HT1.out; omega) (by have := owns_cap HT1.out; omega) w)
      have hcut3 := fun w => HCut3.out w
      have hd4 : (d : Int) + 4 - 4 = (d : Int) := by omega
      have hd64 : (d : Int) < 64 := by have := HD64.out; omega
      clear hHeld HS1 HS2 HFin
      go_wp2_with fail
      have HCells : Hid (∀ m i, i < d → (w17.drewN m).cell? ⟨b8, 9, none⟩ = some (.slice (some ⟨g3, 0, none⟩) (d + 4) k3) ∧ (w17.drewN m).cell? ⟨b8 + 1, 9, none⟩ = some (.slice (some ⟨g4, 0, none⟩) (d + 4) k4) ∧
          (w17.drewN m).cell? ⟨g3, i, none⟩ = some (.int .u8 ((t.getD i 0 ^^^ 255).toNat : Nat)) ∧ (w17.drewN m).cell? ⟨g4, i, none⟩ = some (.int .u8 ((t.getD i 0).toNat : Nat))) := Lib.hid (fun m i hi => by
        refine ⟨HF17.out.c1.1, HF17.out.c2.1, ?_, ?_⟩
        · have h := HT1.out.cells (g := g3) rfl i (.int .u8 ((t.getD i 0 ^^^ 255).toNat : Nat)) (by
            have hl : i < (flipTo t d ++ [1, 2, 3, 4]).length := by rw [List.length_append, flipTo_length, HTd.out]; omega
            have h2 := flipTo_all t i (by rw [HTd.out]; exact hi)
            rw [HTd.out, List.getD_eq_getElem?_getD, List.getElem?_eq_getElem (by rw [flipTo_length, HTd.out]; exact hi)] at h2
            have h3 : (flipTo t d ++ [1, 2, 3, 4])[i] = t.getD i 0 ^^^ 255 := by rw [List.getElem_append_left (by rw [flipTo_length, HTd.out]; exact hi)]; exact h2
            simp only [Go.Lib.byteCells, List.getElem?_map, List.getElem?_eq_getElem hl, Option.map_some, h3])
          rw [Addr.add_lit, Nat.zero_add] at h
          exact h
        · have h := HT2.out.cells (g := g4) rfl i (.int .u8 ((t.getD i 0).toNat : Nat)) (by
            have hl : i < (t ++ [5, 6, 7, 8]).length := by rw [List.length_append, HTd.out]; omega
            have h3 : (t ++ [5, 6, 7, 8])[i] = t.getD i 0 := by
              rw [List.getElem_append_left (by rw [HTd.out]; exact hi), List.getD_eq_getElem?_getD, List.getElem?_eq_getElem (by rw [HTd.out]; exact hi)]
              rfl
            simp only [Go.Lib.byteCells, List.getElem?_map, List.getElem?_eq_getElem hl, Option.map_some, h3])
          rw [Addr.add_lit, Nat.zero_add] at h
          exact h)
      have HS3 : Hid (∃ i : Nat, Value.int .i64 0 = .int .i64 (i : Int) ∧ i ≤ d ∧ Hid (∃ m, w17 = w17.drewN m)) := Lib.hid ⟨0, rfl, Nat.zero_le _, Lib.hid ⟨0, rfl⟩⟩
      clear hcut3 hd4 hT1
      go_loopw [82] (fun v wr => ∃ i : Nat, v = .int .i64 (i : Int) ∧ i ≤ d ∧ Hid (∃ m, wr = w17.drewN m)) (fun v _ => d - (RowKit.intOf v).toNat)
      case atStart => exact HS3.out
      case round =>
        clear HS3
        obtain ⟨i, rfl, hi, hw⟩ := hrel
        by_cases hlt : i < d
        · have hcs : wr.cell? ⟨b8, 9, none⟩ = some (.slice (some ⟨g3, 0, none⟩) (d + 4) k3) ∧ wr.cell? ⟨b8 + 1, 9, none⟩ = some (.slice (some ⟨g4, 0, none⟩) (d + 4) k4) ∧ wr.cell? ⟨g3, i, none⟩ = some (.int .u8 ((t.getD i 0 ^^^ 255).toNat : Nat)) ∧ wr.cell? ⟨g4, i, none⟩ = some (.int .u8 ((t.getD i 0).toNat : Nat)) := by
            obtain ⟨m, hm⟩ := hw.out
            rw [hm]
            exact HCells.out m i hlt
          obtain ⟨h1, h2, h3, h4⟩ := hcs
          have hx1 := flip_val (t.getD i 0)
          obtain ⟨y, hy⟩ : ∃ y : Nat, (t.getD i 0 ^^^ 255).toNat = y := ⟨_, rfl⟩
          obtain ⟨u, hu⟩ : ∃ u : Nat, (t.getD i 0).toNat = u := ⟨_, rfl⟩
          rw [hy] at h3 hx1
          rw [hu] at h4 hx1
          have hd : decide ((i : Int) < (d : Int)) = true := decide_eq_true (by omega)
          have hti : (i : Int) < (d : Int) := by omega
          have ht4 : (i : Int) < (d : Int) + 4 := by omega
          clear hy hu
          go_wp2_with fail
          go_quiet (fail)
          go_wp2_with fail
          go_roundw
          case rel => exact ⟨i + 1, by go_num, hlt, Lib.hid (by obtain ⟨m, hm⟩ := hw.out; rw [hm]; simp only [World.drewN_drewN]; exact ⟨_, rfl⟩)⟩
          case measure => simp [RowKit.intOf]; omega
        · obtain rfl : d = i := by omega
          have hd : decide ((d : Int) < (d : Int)) = false := decide_eq_false (by omega)
          have HF18 : Hid (FS W B b7 b8 (b8 + 1) l D (.slice (some ⟨g3, 0, none⟩) (d + 4) k3) (.slice (some ⟨g4, 0, none⟩) (d + 4) k4) wr) := Lib.hid (by obtain ⟨m, hm⟩ := hw.out; rw [hm]; exact HF17.out.below (below_drawn m (Below.refl _ _)))
          have hn64 : IntKind.u64.wrap (n : Int) = (n : Int) := wraps_u64 _ (by omega) (by have := HM.out; omega)
          have HT18 : Hid (wr.ownsRow (b7 + 1) 5 1 (.slice (some ⟨g3, 0, none⟩) (d + 4) k3) (d + 4) (Go.Lib.byteCells (flipTo t d ++ [1, 2, 3, 4]))) := Lib.hid (by obtain ⟨m, hm⟩ := hw.out; rw [hm]; exact owns_keeps HT1.out (fun i _ hi => rfl))
          have hpl9 := padL_length n
          have hp0 : ∃ r, padL n = 128 :: r := ⟨_, rfl⟩
          obtain ⟨pl, hpl⟩ : ∃ p, padL n = p := ⟨_, rfl⟩
          rw [hpl] at HPad hpl9 hp0
          obtain ⟨m, hmm⟩ : ∃ m, pl.length = m := ⟨_, rfl⟩
          rw [hmm] at HPad hpl9
          have HMm := Lib.hid hmm
          have hm9 : 9 ≤ m := by omega
          have hm0 : ¬ m = 0 := by omega
          have hmi0 : ¬ (m : Int) = 0 := by omega
          have hmi : (0 : Int) < (m : Int) := by omega
          have HP0 := Lib.hid hp0
          clear hi hlt hw HF17 HCells HT1 HT2 HB17 hpl hmm hpl9 hp0
          go_wp2_with fail
          refine (HPad.out _).mono ?_
          rintro e w19 ⟨rfl, hwh19, hb19⟩
          have HF19 : Hid (FS W B b7 b8 (b8 + 1) l D (.slice (some ⟨g3, 0, none⟩) (d + 4) k3) (.slice (some ⟨g4, 0, none⟩) (d + 4) k4) w19) := Lib.hid (HF18.out.below hb19)
          have HT19 : Hid (w19.ownsRow (b7 + 1) 5 1 (.slice (some ⟨g3, 0, none⟩) (d + 4) k3) (d + 4) (Go.Lib.byteCells (flipTo t d ++ [1, 2, 3, 4]))) := Lib.hid (owns_keeps HT18.out (fun i _ hi => hb19.block i hi))
          have HW19 := Lib.hid hwh19
          obtain ⟨P1, hP1⟩ : ∃ b, wr.heap.size = b := ⟨_, rfl⟩
          have HP1 : Hid (b8 + 1 < P1 ∧ g3 < P1) := Lib.hid (by have h := HF18.out.ord; have h2 := (HT18.out.lt g3 rfl).2; omega)
          rw [hP1] at HW19 ⊢
          clear hwh19 hb19 HF18 HT18 hP1
          go_wp2_with fail
          refine (HPad.out _).mono ?_
          rintro e w20 ⟨rfl, hwh20, hb20⟩
          have HF20 : Hid (FS W B b7 b8 (b8 + 1) l D (.slice (some ⟨g3, 0, none⟩) (d + 4) k3) (.slice (some ⟨g4, 0, none⟩) (d + 4) k4) w20) := Lib.hid (HF19.out.below hb20)
          have HT20 : Hid (w20.ownsRow (b7 + 1) 5 1 (.slice (some ⟨g3, 0, none⟩) (d + 4) k3) (d + 4) (Go.Lib.byteCells (flipTo t d ++ [1, 2, 3, 4]))) := Lib.hid (owns_keeps HT19.out (fun i _ hi => hb20.block i hi))
          have HW20 := Lib.hid hwh20
          have HW19' : Hid (Whole P1 pl w20) := Lib.hid (HW19.out.keep hb20 (whole_lt HW19.out))
          obtain ⟨P2, hP2⟩ : ∃ b, w19.heap.size = b := ⟨_, rfl⟩
          have HP2 : Hid (P1 < P2) := Lib.hid (by have := whole_lt HW19.out; omega)
          rw [hP2] at HW20 ⊢
          clear hwh20 hb20 HF19 HT19 HW19 hP2
          have hz1 : w20.cell? ⟨P1, 0, none⟩ = some (.int .u8 128) := by
            obtain ⟨r, hr⟩ := HP0.out
            rw [cell_of_heap HW19'.out, hr]
            rfl
          have hz2 : w20.frozen? ⟨P1, 0, none⟩ = false := frozen_of_heap HW19'.out _
          have hz3 : w20.cell? ⟨P2, 0, none⟩ = some (.int .u8 128) := by
            obtain ⟨r, hr⟩ := HP0.out
            rw [cell_of_heap HW20.out, hr]
            rfl
          have hz4 : w20.cell? ⟨b8, 9, none⟩ = some (.slice (some ⟨g3, 0, none⟩) (d + 4) k3) := HF20.out.c1.1
          have hz5 : w20.cell? ⟨g3, d + 3, none⟩ = some (.int .u8 4) := by
            have h := HT20.out.cells (g := g3) rfl (d + 3) (.int .u8 4) (by
              have hl : d + 3 < (flipTo t d ++ [1, 2, 3, 4]).length := by rw [List.length_append, flipTo_length, HTd.out]; simp
              have h3 : (flipTo t d ++ [1, 2, 3, 4])[d + 3] = 4 := by
                rw [List.getElem_append_right (by rw [flipTo_length, HTd.out]; omega)]
                simp only [flipTo_length, HTd.out, Nat.add_sub_cancel_left]
                rfl
              simp only [Go.Lib.byteCells, List.getElem?_map, List.getElem?_eq_getElem hl, Option.map_some, h3]
              rfl)
            rw [Addr.add_lit, Nat.zero_add] at h
            exact h
          have n1 : ¬ P1 = P2 := by have := HP2.out; omega
          have n2 : ¬ P2 = P1 := by have := HP2.out; omega
          have n3 : ¬ P1 = b8 := by have := HP1.out; omega
          have n4 : ¬ b8 = P1 := by have := HP1.out; omega
          have n5 : ¬ P1 = g3 := by have := HP1.out; omega
          have n6 : ¬ g3 = P1 := by have := HP1.out; omega
          have hd3 : (d : Int) + 4 - 1 = (d : Int) + 3 := by omega
          have hd3n : (0 : Int) ≤ (d : Int) + 3 := by omega
          have hd3l : (d : Int) + 3 < (d : Int) + 4 := by omega
          have hd3t : ((d : Int) + 3).toNat = d + 3 := by omega
          have hd3w : IntKind.i64.wrap ((d : Int) + 3) = (d : Int) + 3 := by rw [IntKind.wrap_i64]; have := HD64.out; omega
          have HGf : Hid (Below W.heap.size W (w20.setCell ⟨P1, 0, none⟩ (.int .u8 (x % 256)))) := Lib.hid (HF20.out.g.setCell (by have := HP1.out; have := HO.out; simp only; omega) _)
          go_wp2_with fail
          refine (HWorks.out _ (HT.out.below HGf.out)).mono ?_
          rintro e w21 ⟨rfl, hb21⟩
          go_wp2_with fail
          go_ret
          exact ⟨rfl, HGf.out.trans (hb21.mono HGf.out.size)⟩
end Go.Proofs.YtphgaemmbdogmaaDoor
