/- ShaPieces, walked. -/
import Derived.Test.YtphgaemmbdogmaaDoorShaTakenW
import Derived.Test.YtphgaemmbdogmaaDoorIntsOpen
import Derived.Test.YtphgaemmbdogmaaDoorSliceM
namespace Go.Proofs.YtphgaemmbdogmaaDoor
open Go.ChangeShapes Go.WideShapes Go.ChangeAt Go.RowKit Go.Lib

/-- "more", as a part, for a hash that lies elsewhere. -/
theorem more_parts (w : World) (K : Nat) (hK : K < w.heap.size) :
    PartsK ((w.alloc (.cells #[.int .u8 109, .int .u8 111, .int .u8 114, .int .u8 101] 5 (4, 5))).alloc (.cells #[.slice (some ⟨w.heap.size, 0, none⟩) 4 4] 29)).heap.size K (some ⟨w.heap.size + 1, 0, none⟩) 1 (fun _ => some ⟨w.heap.size, 0, none⟩) (fun _ => 4) (fun _ => [109, 111, 114, 101])
      ((w.alloc (.cells #[.int .u8 109, .int .u8 111, .int .u8 114, .int .u8 101] 5 (4, 5))).alloc (.cells #[.slice (some ⟨w.heap.size, 0, none⟩) 4 4] 29)) := by
  refine parts_oneK ?_ (by simp) (by omega) ?_ (by decide) (by decide)
  · have h := (MapKept.heap_alloc (w.alloc (.cells #[.int .u8 109, .int .u8 111, .int .u8 114, .int .u8 101] 5 (4, 5))) (.cells #[.slice (some ⟨w.heap.size, 0, none⟩) 4 4] 29)).1
    simp only [World.size_alloc] at h
    rw [cell_of_heap h]
    rfl
  · intro _
    refine ⟨w.heap.size, 0, rfl, by simp; omega, by omega, fun j hj => ?_⟩
    have h : ((w.alloc (.cells #[.int .u8 109, .int .u8 111, .int .u8 114, .int .u8 101] 5 (4, 5))).alloc (.cells #[.slice (some ⟨w.heap.size, 0, none⟩) 4 4] 29)).heap[w.heap.size]? = some (.cells #[.int .u8 109, .int .u8 111, .int .u8 114, .int .u8 101] 5 (4, 5)) := by
      rw [(MapKept.heap_alloc _ _).2 _ (by simp), (MapKept.heap_alloc _ _).1]
    rw [cell_of_heap h, Nat.zero_add]
    have hj3 : j < 4 := hj
    obtain rfl | rfl | rfl | rfl : j = 0 ∨ j = 1 ∨ j = 2 ∨ j = 3 := by omega
    all_goals rfl

/-- Two parts, for a hash that lies elsewhere. -/
theorem parts_twoK {w : World} {g b K : Nat} {p q : Option Addr} {l m : List UInt8} {c d : Nat} (h0 : w.cell? ⟨g, 0, none⟩ = some (.slice p l.length c)) (h1 : w.cell? ⟨g, 1, none⟩ = some (.slice q m.length d)) (hg : g < b) (hgK : g ≠ K)
    (hB : Bytes b K p l w) (hC : Bytes b K q m w) (hl : l.length ≤ c) (hm : m.length ≤ d) (hl2 : l.length ≤ 140737488351232) (hm2 : m.length ≤ 140737488351232) :
    PartsK b K (some ⟨g, 0, none⟩) 2 (pairF p q) (pairF c d) (pairF l m) w :=
  ⟨fun _ => ⟨g, 0, rfl, hg, hgK, fun i hi => by
      obtain rfl | rfl : i = 0 ∨ i = 1 := by omega
      · exact h0
      · exact h1⟩, fun i hi => by
      obtain rfl | rfl : i = 0 ∨ i = 1 := by omega
      · exact ⟨hB, hl, hl2⟩
      · exact ⟨hC, hm, hm2⟩⟩

set_option maxRecDepth 100000 in
set_option maxHeartbeats 16000000 in
theorem shaPieces_walk (a : Option Addr) (c : Nat) (l : List UInt8) (p1 : Option Addr) (c1 : Nat) (K1 : List Int) (p2 : Option Addr) (c2 : Nat) (K2 : List Int) (W : World) (hT : Tab W) (hn : a = none → l = []) (hB : Bytes W.heap.size W.heap.size a l W) (hm : l.length ≤ 140737488351232) (hc : l.length ≤ c)
    (hI1 : Ints W.heap.size p1 K1 W) (hI2 : Ints W.heap.size p2 K2 W) :
    Calls Tryd.prog 7 #[.slice a l.length c, .slice p1 K1.length c1, .slice p2 K2.length c2] W fun e w' => e = .returned (.bool true) ∧ Below W.heap.size W w' := by
  have HT := Lib.hid hT
  have HBa := Lib.hid hB
  have HI1 := Lib.hid hI1
  have HI2 := Lib.hid hI2
  have HWorks := Lib.hid (fun w (h : Tab w) => works_any w h)
  have HNew := Lib.hid (fun w => new_any w)
  have H1 := Lib.hid (fun w hw => sum_one a c l W hT hB hc hm w hw)
  obtain ⟨D, hD⟩ : ∃ D, sumI firstI 0 l = D := ⟨_, rfl⟩
  have hDl : D.length = 32 := by rw [← hD]; exact sumI_length _ _ _
  have HSame := Lib.hid (fun w => dig_same D hDl w)
  rw [hD] at H1
  unfold dig at H1 HSame
  have HYi := Lib.hid (dig_size D hDl)
  have HYo := Lib.hid (dig_one D)
  have HYs : Hid ((Go.Lib.byteCells zero32).toArray.size = (Go.Lib.byteCells D).toArray.size) := Lib.hid (by rw [List.size_toArray, List.size_toArray, bc_len, bc_len, hDl]; rfl)
  have HYc : Hid ((Tryd.prog.info? 24).map (·.size) = some (Go.Lib.byteCells D).length) := Lib.hid (by rw [bc_len, hDl]; kernel_rfl)
  have HDD := Lib.hid hD
  obtain ⟨n, hnn⟩ : ∃ n, l.length = n := ⟨_, rfl⟩
  have HL := Lib.hid hnn
  rw [hnn] at hm hc H1 ⊢
  have HM := Lib.hid hm
  have HCc := Lib.hid hc
  obtain ⟨N, hN⟩ : ∃ N, K1.length = N := ⟨_, rfl⟩
  obtain ⟨N2, hN2⟩ : ∃ N, K2.length = N := ⟨_, rfl⟩
  have HN := Lib.hid hN
  have HN2 := Lib.hid hN2
  rw [hN, hN2]
  have hNm : N ≤ 9223372036854775807 := by have := hI1.le; unfold maxLen at this; omega
  have hNm2 : N2 ≤ 9223372036854775807 := by have := hI2.le; unfold maxLen at this; omega
  obtain ⟨Y, hY⟩ : ∃ Y, (Go.Lib.byteCells D).toArray = Y := ⟨_, rfl⟩
  rw [hY] at H1 HSame HYi HYo HYs
  have HY := Lib.hid hY
  clear hT hB hn hnn hI1 hI2 hD hDl hN hN2 hY
  go_enter Tryd.func7, Tryd.ntmps7
  go_wp2_with fail
  refine (H1.out _ (Below.refl _ _)).mono ?_
  rintro e w1 ⟨rfl, hb1⟩
  have HG1 := Lib.hid hb1
  clear hb1
  obtain ⟨v2, hv2⟩ : ∃ v, v = w1.alloc (.cells Y 24) := ⟨_, rfl⟩
  have HV2 := Lib.hid ((World.setRow_alloc_new w1 (Go.Lib.byteCells zero32).toArray Y 24).trans hv2.symm)
  have HR2 : Hid (v2.heap[w1.heap.size]? = some (.cells Y 24 (0, 0))) := Lib.hid (by rw [hv2]; exact heap_last _ _)
  have HG2 : Hid (Below W.heap.size W v2) := Lib.hid (by rw [hv2]; exact HG1.out.alloc HG1.out.size _)
  have HZ2 : Hid (v2.heap.size = w1.heap.size + 1) := Lib.hid (by rw [hv2]; simp)
  clear hv2
  go_wp2_with (refine wpList_store_row rfl 24 (.tmp 7) (.tmp 17) rfl w1.heap.size Y rfl rfl 24 (Go.Lib.byteCells zero32).toArray ?hg HYi.out HYs.out HYo.out ?_)
  case hg => exact heap_last _ _
  refine calls_at HV2.out ?_
  refine (HNew.out v2).mono ?_
  rintro e w3 ⟨B, rfl, hBl, hTk3, hb3⟩
  obtain ⟨V, hV⟩ : ∃ V, w1.heap.size = V := ⟨_, rfl⟩
  have HBV : Hid (V < B ∧ W.heap.size ≤ B ∧ W.heap.size ≤ V) := Lib.hid (by have := HZ2.out; have := HG1.out.size; omega)
  have HTk3 := Lib.hid hTk3
  have HR3 : Hid (w3.heap[w1.heap.size]? = some (.cells Y 24 (0, 0))) := Lib.hid ((hb3.block _ (by have := HZ2.out; omega)).trans HR2.out)
  have HG3 : Hid (Below W.heap.size W w3) := Lib.hid (HG2.out.trans (hb3.mono HG2.out.size))
  have HV := Lib.hid hV
  rw [hV] at HR3 ⊢
  clear hBl hTk3 hb3 HV2 HR2 hV
  have HTk3' : Hid (Took B firstI 0 (l.take 0) w3) := HTk3
  go_wp2_with fail
  go_loopw [8, 9, 21] (fun h t v wr => ∃ i k H : Nat, v = .int .i64 i ∧ i ≤ N ∧ t = .int .i64 k ∧ k ≤ n ∧ h = .pointer (some ⟨H, 0, none⟩) ∧ Hid (V < H ∧ W.heap.size ≤ H) ∧ Hid (Took H firstI 0 (l.take k) wr) ∧ Hid (wr.heap[V]? = some (.cells Y 24 (0, 0))) ∧ Hid (Below W.heap.size W wr)) (fun _ _ v _ => N - (RowKit.intOf v).toNat)
  case atStart => exact ⟨0, 0, B, rfl, Nat.zero_le _, rfl, Nat.zero_le _, rfl, Lib.hid ⟨HBV.out.1, HBV.out.2.1⟩, HTk3', HR3, HG3⟩
  case round =>
    obtain ⟨i, k, H, rfl, hi, rfl, hk, rfl, hH, htk, hr, hg⟩ := hrel
    by_cases hlt : i < N
    · obtain ⟨pb, off, hp, hpb, hcell⟩ := HI1.out.cell (by intro e; rw [e] at HN; have := HN.out; simp at this; omega)
      subst hp
      obtain ⟨x, hx⟩ : ∃ x, K1[i]'(by rw [HN.out]; exact hlt) = x := ⟨_, rfl⟩
      have x1 := (hg.out.cell (p := ⟨pb, off + i, none⟩) hpb).trans (hcell i (by rw [HN.out]; exact hlt))
      rw [hx] at x1
      have hdl : decide ((i : Int) < (N : Int)) = true := decide_eq_true (by omega)
      have hti : (i : Int) < (N : Int) := by omega
      obtain ⟨j, hj, hkj⟩ : ∃ j : Nat, min (max x 0) ((n : Int) - (k : Int)) = (j : Int) ∧ k + j ≤ n := ⟨(min (max x 0) ((n : Int) - (k : Int))).toNat, by omega, by omega⟩
      obtain ⟨e, he⟩ : ∃ e, k + j = e := ⟨_, rfl⟩
      have he2 : (k : Int) + (j : Int) = (e : Int) := by omega
      rw [he] at hkj
      obtain ⟨q, hsl, hq⟩ := slice_mid a n c k e (by omega) hkj HCc.out
      rw [show e - k = j by omega] at hsl hq
      have HTake : Hid (l.take k ++ (l.drop k).take j = l.take e) := Lib.hid (by rw [← he, List.take_add])
      have HJl : Hid (((l.drop k).take j).length = j) := Lib.hid (by rw [List.length_take, List.length_drop, HL.out]; omega)
      have HJc : Hid (j ≤ c - k ∧ j ≤ n) := Lib.hid (by have := HCc.out; omega)
      have HBq : Hid (Bytes W.heap.size W.heap.size q ((l.drop k).take j) W) := Lib.hid (hq l W _ _ HL.out HBa.out)
      obtain ⟨cq, hcq⟩ : ∃ cq, c - k = cq := ⟨_, rfl⟩
      rw [hcq] at hsl HJc
      have HE : Hid (e ≤ n) := Lib.hid hkj
      clear hcell hpb hx hq hcq he
      go_wp2_with fail
      obtain ⟨v1, hv1⟩ : ∃ v, v = wr.alloc (.cells #[Value.slice q j cq] 29) := ⟨_, rfl⟩
      have HGa : Hid (Below W.heap.size W v1) := Lib.hid (by rw [hv1]; exact hg.out.alloc hg.out.size _)
      have HTa : Hid (Took H firstI 0 (l.take k) v1) := Lib.hid (by rw [hv1]; exact htk.out.alloc _)
      have HVl : Hid (V < wr.heap.size ∧ H < wr.heap.size) := Lib.hid ⟨(Array.getElem?_eq_some_iff.1 hr.out).1, htk.out.lt⟩
      have HRa : Hid (v1.heap[V]? = some (.cells Y 24 (0, 0))) := Lib.hid (by rw [hv1, (MapKept.heap_alloc _ _).2 _ HVl.out.1]; exact hr.out)
      have HZa : Hid (v1.heap.size = wr.heap.size + 1) := Lib.hid (by rw [hv1]; simp)
      have HWrite := Lib.hid (write_ok H firstI 0 (l.take k) (some ⟨wr.heap.size, 0, none⟩) 1 1 (by decide) (fun _ => q) (fun _ => cq) (fun _ => (l.drop k).take j) v1 (HT.out.below HGa.out) HTa.out (by
        have hz := HZa.out
        have hlt := HVl.out
        have hs := hg.out.size
        have hh := hH.out
        refine parts_oneK (by rw [hv1, cell_of_heap (heap_last _ _), HJl.out]; rfl) (by omega) (by omega) ?_ (by rw [HJl.out]; exact HJc.out.1) (by rw [HJl.out]; have := HJc.out; have := HM.out; omega)
        intro hne
        obtain ⟨pb, off, hp, h1, h2, h3⟩ := (HBq.out.keep HGa.out) hne
        exact ⟨pb, off, hp, by omega, by omega, h3⟩) (by rw [cat_one, HJl.out, List.length_take, HL.out]; have := HM.out; have := HJc.out; omega))
      rw [cat_one, HTake.out] at HWrite
      rw [← hv1]
      clear hv1 hsl hj
      refine HWrite.out.mono ?_
      rintro e' w2 ⟨rfl, htk2, hb2⟩
      have HTk2 := Lib.hid htk2
      have HG2' : Hid (Below W.heap.size W w2) := Lib.hid (HGa.out.trans (hb2.below hH.out.2 HGa.out.size))
      have HR2' : Hid (w2.heap[V]? = some (.cells Y 24 (0, 0))) := Lib.hid ((hb2.block V (by have := HVl.out; have := HZa.out; omega) (by have := hH.out; omega)).trans HRa.out)
      clear htk2 hb2 HWrite HRa HTa HGa HVl HZa htk hr hg
      have HVl2 : Hid (V < w2.heap.size ∧ W.heap.size ≤ w2.heap.size) := Lib.hid ⟨(Array.getElem?_eq_some_iff.1 HR2'.out).1, HG2'.out.size⟩
      have HLt : Hid ((l.take e).length < 18446744073709551616) := Lib.hid (by rw [List.length_take, HL.out]; have := HM.out; omega)
      by_cases h2 : i < N2
      · obtain ⟨pb2, off2, hp2, hpb2, hcell2⟩ := HI2.out.cell (by intro e; rw [e] at HN2; have := HN2.out; simp at this; omega)
        subst hp2
        obtain ⟨y, hy⟩ : ∃ y, K2[i]'(by rw [HN2.out]; exact h2) = y := ⟨_, rfl⟩
        have y1 := (HG2'.out.cell (p := ⟨pb2, off2 + i, none⟩) hpb2).trans (hcell2 i (by rw [HN2.out]; exact h2))
        rw [hy] at y1
        have hd2 : decide ((i : Int) < (N2 : Int)) = true := decide_eq_true (by omega)
        have ht2 : (i : Int) < (N2 : Int) := by omega
        clear hcell2 hpb2 hy
        rcases (by omega : y = 1 ∨ y = 2 ∨ y = 3 ∨ y = 4 ∨ (y ≠ 1 ∧ y ≠ 2 ∧ y ≠ 3 ∧ y ≠ 4)) with rfl | rfl | rfl | rfl | ⟨z1, z2, z3, z4⟩
        · go_wp2_with fail
          refine (sum_any H firstI 0 (l.take e) w2 (HT.out.below HG2'.out) HTk2.out).mono ?_
          rintro e' w4 ⟨rfl, hb4⟩
          have HTk4 := Lib.hid (HTk2.out.keep hb4 HTk2.out.lt)
          have HR4 := Lib.hid ((hb4.block V HVl2.out.1).trans HR2'.out)
          have HG4 := Lib.hid (HG2'.out.trans (hb4.mono HG2'.out.size))
          clear hb4
          go_wp2_with fail
          refine ⟨⟨i + 1, e, H, by go_num, hlt, rfl, HE.out, rfl, hH, HTk4, HR4, HG4⟩, by simp [RowKit.intOf]; omega⟩
        · go_wp2_with fail
          refine (took_tells HTk2.out HLt.out).mono ?_
          rintro e' w4 ⟨mv, rfl, ho, hb4⟩
          have HTk4 := Lib.hid (HTk2.out.keep hb4 HTk2.out.lt)
          have HR4 := Lib.hid ((hb4.block V HVl2.out.1).trans HR2'.out)
          have HG4 := Lib.hid (HG2'.out.trans (hb4.mono HG2'.out.size))
          clear hb4 ho
          go_wp2_with fail
          refine ⟨⟨i + 1, e, H, by go_num, hlt, rfl, HE.out, rfl, hH, HTk4, HR4, HG4⟩, by simp [RowKit.intOf]; omega⟩
        · go_wp2_with fail
          refine (copy_any H firstI 0 (l.take e) w2 HTk2.out).mono ?_
          rintro e' w4 ⟨rfl, htk4, hb4⟩
          have HTk4 := Lib.hid htk4
          have HR4 := Lib.hid ((hb4.block V HVl2.out.1).trans HR2'.out)
          have HG4 := Lib.hid (HG2'.out.trans (hb4.mono HG2'.out.size))
          clear hb4 htk4
          go_wp2_with fail
          refine ⟨⟨i + 1, e, w2.heap.size, by go_num, hlt, rfl, HE.out, rfl, HVl2, HTk4, HR4, HG4⟩, by simp [RowKit.intOf]; omega⟩
        · go_wp2_with fail
          refine (copy_any H firstI 0 (l.take e) w2 HTk2.out).mono ?_
          rintro e' w4 ⟨rfl, htk4, hb4⟩
          have HTk4 := Lib.hid (HTk2.out.keep hb4 HTk2.out.lt)
          have HX4 := Lib.hid htk4
          have HR4 := Lib.hid ((hb4.block V HVl2.out.1).trans HR2'.out)
          have HG4 := Lib.hid (HG2'.out.trans (hb4.mono HG2'.out.size))
          clear hb4 htk4
          have kc := fun (w : World) (C : Array Value) (n c : Nat) => Lib.run_convert_bytes_const (P := Tryd.prog) w 29 5 C n c Tryd.underlying29 Tryd.underlying5
          go_wp2_with fail
          clear kc
          have HPm := Lib.hid (more_parts w4 w2.heap.size HX4.out.lt)
          obtain ⟨w5, hw5⟩ : ∃ w5, w5 = (w4.alloc (.cells #[.int .u8 109, .int .u8 111, .int .u8 114, .int .u8 101] 5 (4, 5))).alloc (.cells #[.slice (some ⟨w4.heap.size, 0, none⟩) 4 4] 29) := ⟨_, rfl⟩
          have HQ5 : Hid (Below w4.heap.size w4 w5) := Lib.hid (by rw [hw5]; exact ((Below.refl _ w4).alloc (Nat.le_refl _) _).alloc (by simp) _)
          rw [← hw5] at HPm ⊢
          have HX5 := Lib.hid (HX4.out.keep HQ5.out HX4.out.lt)
          have HTk5 := Lib.hid (HTk4.out.keep HQ5.out HTk4.out.lt)
          have HR5 := Lib.hid ((HQ5.out.block V (Array.getElem?_eq_some_iff.1 HR4.out).1).trans HR4.out)
          have HG5 := Lib.hid (HG4.out.trans (HQ5.out.mono HG4.out.size))
          have HWm := Lib.hid (write_ok w2.heap.size firstI 0 (l.take e) (some ⟨w4.heap.size + 1, 0, none⟩) 1 1 (by decide) (fun _ => some ⟨w4.heap.size, 0, none⟩) (fun _ => 4) (fun _ => [109, 111, 114, 101]) w5 (HT.out.below HG5.out) HX5.out HPm.out (by
            rw [cat_one, List.length_take, HL.out]
            have := HM.out
            simp only [List.length_cons, List.length_nil]
            omega))
          clear hw5 HPm HQ5 HX4 HTk4 HR4 HG4
          refine HWm.out.mono ?_
          rintro e' w6 ⟨rfl, -, hb6⟩
          have HTk6 := Lib.hid (took_copy HTk5.out (hb6.block H HTk5.out.lt (by have := HTk2.out.lt; omega)))
          have HR6 := Lib.hid ((hb6.block V (Array.getElem?_eq_some_iff.1 HR5.out).1 (by have := HVl2.out.1; omega)).trans HR5.out)
          have HG6 := Lib.hid (HG5.out.trans (hb6.below HVl2.out.2 HG5.out.size))
          clear hb6 HWm
          go_wp2_with fail
          refine ⟨⟨i + 1, e, H, by go_num, hlt, rfl, HE.out, rfl, hH, HTk6, HR6, HG6⟩, by simp [RowKit.intOf]; omega⟩
        · have q1 : (y == 1) = false := by simp [z1]
          have q2 : (y == 2) = false := by simp [z2]
          have q3 : (y == 3) = false := by simp [z3]
          have q4 : (y == 4) = false := by simp [z4]
          go_wp2_with fail
          refine ⟨⟨i + 1, e, H, by go_num, hlt, rfl, HE.out, rfl, hH, HTk2, HR2', HG2'⟩, by simp [RowKit.intOf]; omega⟩
      · have hd2 : decide ((i : Int) < (N2 : Int)) = false := decide_eq_false (by omega)
        go_wp2_with fail
        refine ⟨⟨i + 1, e, H, by go_num, hlt, rfl, HE.out, rfl, hH, HTk2, HR2', HG2'⟩, by simp [RowKit.intOf]; omega⟩
    · have hie : i = N := by omega
      subst hie
      obtain ⟨q, hsl, hq⟩ := slice_from a n c k hk HCc.out
      obtain ⟨m, hm⟩ : ∃ m, n - k = m := ⟨_, rfl⟩
      obtain ⟨cq, hcq⟩ : ∃ cq, c - k = cq := ⟨_, rfl⟩
      have HMm : Hid (m ≤ n ∧ m ≤ cq) := Lib.hid (by have := HCc.out; omega)
      have HMl : Hid ((l.drop k).length = m) := Lib.hid (by rw [List.length_drop, HL.out]; exact hm)
      rw [hm, hcq] at hsl
      have HBq : Hid (Bytes W.heap.size W.heap.size q (l.drop k) W) := Lib.hid (hq l W _ _ HL.out HBa.out)
      have HVl : Hid (V < wr.heap.size ∧ H < wr.heap.size) := Lib.hid ⟨(Array.getElem?_eq_some_iff.1 hr.out).1, htk.out.lt⟩
      have hdl : decide ((i : Int) < (i : Int)) = false := decide_eq_false (by omega)
      have e1 : IntKind.u64.wrap (n : Int) = (n : Int) := wraps_u64 _ (by omega) (by have := HM.out; omega)
      obtain ⟨S, hS⟩ : ∃ S : World → Prop, S = fun w => w.heap[V]? = some (.cells Y 24 (0, 0)) := ⟨_, rfl⟩
      have HS0 : Hid (∀ w, w.heap[V]? = some (.cells Y 24 (0, 0)) → S w) := Lib.hid (by rw [hS]; exact fun w h => h)
      have HSr : Hid (∀ w, S w → w.rangeAt V 0 (Go.Lib.byteCells D)) := Lib.hid (by
        rw [hS]
        intro w h j x hx
        rw [cell_of_heap h, Nat.zero_add, ← HY.out, List.getElem?_toArray, hx])
      have HSl := Lib.hid hsl
      clear hq hm hcq hS hlt hi hk
      go_wp2_with fail
      have hHeld0 : S wr.drew := HS0.out _ hr.out
      refine wp_region_held_drew (S := S) (by kernel_rfl) hHeld0 (fun hHeld => ?_)
      clear hHeld0
      first | (refine held_take 0 _ rfl (by kernel_rfl) (by kernel_rfl) (by kernel_rfl) (v := ?_) (fun _ _ _ h => h) ?_ rfl hHeld ?_; rotate_left; focus (intro w hS; skip; go_simp; try with_reducible rfl)) | (refine held_skip 0 _ rfl (by kernel_rfl) (by kernel_rfl) (by kernel_rfl) (fun _ _ _ h => h) rfl hHeld ?_)
      show wpAnyH _ _ _ _ _ _ _ { tmps := _, defers := _ } _
      try simp only [Act.put, List.setIfInBounds_toArray, List.set_cons_zero, List.set_cons_succ]
      first | (refine held_take 1 _ rfl (by kernel_rfl) (by kernel_rfl) (by kernel_rfl) (v := ?_) (fun _ _ _ h => h) ?_ rfl hHeld ?_; rotate_left; focus (intro w hS; skip; go_simp; try with_reducible rfl)) | (refine held_skip 1 _ rfl (by kernel_rfl) (by kernel_rfl) (by kernel_rfl) (fun _ _ _ h => h) rfl hHeld ?_)
      show wpAnyH _ _ _ _ _ _ _ { tmps := _, defers := _ } _
      try simp only [Act.put, List.setIfInBounds_toArray, List.set_cons_zero, List.set_cons_succ]
      first | (refine held_take 2 _ rfl (by kernel_rfl) (by kernel_rfl) (by kernel_rfl) (v := ?_) (fun _ _ _ h => h) ?_ rfl hHeld ?_; rotate_left; focus (intro w hS; skip; go_simp; try with_reducible rfl)) | (refine held_skip 2 _ rfl (by kernel_rfl) (by kernel_rfl) (by kernel_rfl) (fun _ _ _ h => h) rfl hHeld ?_)
      show wpAnyH _ _ _ _ _ _ _ { tmps := _, defers := _ } _
      try simp only [Act.put, List.setIfInBounds_toArray, List.set_cons_zero, List.set_cons_succ]
      first | (refine held_take 3 _ rfl (by kernel_rfl) (by kernel_rfl) (by kernel_rfl) (v := ?_) (fun _ _ _ h => h) ?_ rfl hHeld ?_; rotate_left; focus (intro w hS; have h10 := HSl.out w; go_simp; try with_reducible rfl)) | (refine held_skip 3 _ rfl (by kernel_rfl) (by kernel_rfl) (by kernel_rfl) (fun _ _ _ h => h) rfl hHeld ?_)
      show wpAnyH _ _ _ _ _ _ _ { tmps := _, defers := _ } _
      try simp only [Act.put, List.setIfInBounds_toArray, List.set_cons_zero, List.set_cons_succ]
      refine held_next 4 _ (by kernel_rfl) rfl rfl fun K hK => ?_
      go_simp
      obtain ⟨u, hu⟩ : ∃ u, u = (wr.alloc (.cells #[Value.slice q m cq, Value.slice none 0 0] 29)).drew := ⟨_, rfl⟩
      have HGu : Hid (Below W.heap.size W u) := Lib.hid (by rw [hu]; exact below_drawn 1 (hg.out.alloc hg.out.size _))
      have HTu : Hid (Took H firstI 0 (l.take k) u) := Lib.hid (by rw [hu]; exact (htk.out.alloc _).drewN 1)
      have HRu : Hid (u.heap[V]? = some (.cells Y 24 (0, 0))) := Lib.hid (by
        rw [hu]
        show (wr.alloc _).heap[V]? = _
        rw [(MapKept.heap_alloc _ _).2 _ HVl.out.1]
        exact hr.out)
      have HZu : Hid (u.heap.size = wr.heap.size + 1) := Lib.hid (by rw [hu]; show (wr.alloc _).heap.size = _; simp)
      have HXu : Hid (u.heap[wr.heap.size]? = some (.cells #[Value.slice q m cq, Value.slice none 0 0] 29 (0, 0))) := Lib.hid (by rw [hu]; exact heap_last _ _)
      have HWrite := Lib.hid (write_ok H firstI 0 (l.take k) (some ⟨wr.heap.size, 0, none⟩) 2 2 (by decide) (pairF q none) (pairF cq 0) (pairF (l.drop k) []) u (HT.out.below HGu.out) HTu.out (by
        have hz := HZu.out
        have hlt := HVl.out
        have hs := hg.out.size
        have hh := hH.out
        refine parts_twoK (by rw [cell_of_heap HXu.out, HMl.out]; rfl) (by rw [cell_of_heap HXu.out]; rfl) (by omega) (by omega) ?_ (fun hne => absurd rfl hne) (by rw [HMl.out]; exact HMm.out.2) (Nat.le_refl _) (by rw [HMl.out]; have := HMm.out; have := HM.out; omega) (by decide)
        intro hne
        obtain ⟨pb, off, hp, h1, h2, h3⟩ := (HBq.out.keep HGu.out) hne
        exact ⟨pb, off, hp, by omega, by omega, h3⟩) (by
        rw [cat_two, List.append_nil, HMl.out, List.length_take, HL.out]
        have := HM.out
        have := HMm.out
        omega))
      rw [cat_two, List.append_nil, List.take_append_drop] at HWrite
      rw [← hu]
      refine hK _ _ (HS0.out _ HRu.out) (fun hHeld => ?_)
      clear hK K hu
      show wpAnyH _ _ _ _ _ _ _ { tmps := _, defers := _ } _
      try simp only [Act.put, List.setIfInBounds_toArray, List.set_cons_zero, List.set_cons_succ]
      refine held_next 5 _ (by kernel_rfl) rfl rfl fun K hK => ?_
      go_simp
      refine HWrite.out.mono ?_
      rintro e u2 ⟨rfl, htk2, hb2⟩
      have HT2 := Lib.hid htk2
      have HG2 : Hid (Below W.heap.size W u2) := Lib.hid (HGu.out.trans (hb2.below hH.out.2 HGu.out.size))
      have HR2 : Hid (u2.heap[V]? = some (.cells Y 24 (0, 0))) := Lib.hid ((hb2.block V (by have := HVl.out; have := HZu.out; omega) (by have := hH.out; omega)).trans HRu.out)
      show K _ _
      refine hK _ _ (HS0.out _ HR2.out) (fun hHeld => ?_)
      clear hK K htk2 hb2 HWrite HXu HRu HTu HGu HZu htk hr hg
      have HSum : Hid (∀ w, Below u2.heap.size u2 w → Calls Tryd.prog 22 #[.pointer (some ⟨H, 0, none⟩)] w fun e w' => e = .returned (.agg Y) ∧ Below w.heap.size w w') := Lib.hid (fun w hw => by
        have k := sum_any H firstI 0 l w (HT.out.below (HG2.out.trans (hw.mono HG2.out.size))) (HT2.out.keep hw HT2.out.lt)
        rw [HDD.out] at k
        unfold dig at k
        rw [HY.out] at k
        exact k)
      have HLen : Hid (∀ w, Below u2.heap.size u2 w → Calls Tryd.prog 23 #[.pointer (some ⟨H, 0, none⟩)] w fun e w' => e = .returned (.int .u64 (n : Int)) ∧ ∃ m, w' = w.drewN m) := Lib.hid (fun w hw => by
        have k := took_len (HT2.out.keep hw HT2.out.lt) (by rw [HL.out]; have := HM.out; omega)
        rw [HL.out] at k
        exact k)
      have HRV : Hid (∀ w, Below u2.heap.size u2 w → w.heap[V]? = some (.cells Y 24 (0, 0))) := Lib.hid (fun w hw => (hw.block V (Array.getElem?_eq_some_iff.1 HR2.out).1).trans HR2.out)
      show wpAnyH _ _ _ _ _ _ _ { tmps := _, defers := _ } _
      try simp only [Act.put, List.setIfInBounds_toArray, List.set_cons_zero, List.set_cons_succ]
      first | (refine held_take 6 _ rfl (by kernel_rfl) (by kernel_rfl) (by kernel_rfl) (v := ?_) (fun _ _ _ h => h) ?_ rfl hHeld ?_; rotate_left; focus (intro w hS; skip; go_simp; try with_reducible rfl)) | (refine held_skip 6 _ rfl (by kernel_rfl) (by kernel_rfl) (by kernel_rfl) (fun _ _ _ h => h) rfl hHeld ?_)
      show wpAnyH _ _ _ _ _ _ _ { tmps := _, defers := _ } _
      try simp only [Act.put, List.setIfInBounds_toArray, List.set_cons_zero, List.set_cons_succ]
      first | (refine held_take 7 _ rfl (by kernel_rfl) (by kernel_rfl) (by kernel_rfl) (v := ?_) (fun _ _ _ h => h) ?_ rfl hHeld ?_; rotate_left; focus (intro w hS; skip; go_simp; try with_reducible rfl)) | (refine held_skip 7 _ rfl (by kernel_rfl) (by kernel_rfl) (by kernel_rfl) (fun _ _ _ h => h) rfl hHeld ?_)
      show wpAnyH _ _ _ _ _ _ _ { tmps := _, defers := _ } _
      try simp only [Act.put, List.setIfInBounds_toArray, List.set_cons_zero, List.set_cons_succ]
      first | (refine held_take 8 _ rfl (by kernel_rfl) (by kernel_rfl) (by kernel_rfl) (v := ?_) (fun _ _ _ h => h) ?_ rfl hHeld ?_; rotate_left; focus (intro w hS; skip; go_simp; try with_reducible rfl)) | (refine held_skip 8 _ rfl (by kernel_rfl) (by kernel_rfl) (by kernel_rfl) (fun _ _ _ h => h) rfl hHeld ?_)
      show wpAnyH _ _ _ _ _ _ _ { tmps := _, defers := _ } _
      try simp only [Act.put, List.setIfInBounds_toArray, List.set_cons_zero, List.set_cons_succ]
      refine held_load 10 _ rfl (by kernel_rfl) (by kernel_rfl) (by kernel_rfl) 24 (.tmp 7) rfl V 0 (Go.Lib.byteCells D) _ (fun _ _ _ h => h) rfl (fun w h => HSr.out w h) Tryd.underlying24 rfl HYc.out rfl hHeld ?_
      rw [HY.out]
      show wpAnyH _ _ _ _ _ _ _ { tmps := _, defers := _ } _
      try simp only [Act.put, List.setIfInBounds_toArray, List.set_cons_zero, List.set_cons_succ]
      refine held_next 9 _ (by kernel_rfl) rfl rfl fun K hK => ?_
      go_simp
      refine (HSum.out _ (Below.refl _ _)).mono ?_
      rintro e u3 ⟨rfl, hb3⟩
      show K _ _
      refine hK _ _ (HS0.out _ (HRV.out _ hb3)) (fun hHeld => ?_)
      clear hK K
      have HQ3 := Lib.hid hb3
      clear hb3
      show wpAnyH _ _ _ _ _ _ _ { tmps := _, defers := _ } _
      try simp only [Act.put, List.setIfInBounds_toArray, List.set_cons_zero, List.set_cons_succ]
      first | (refine held_take 11 _ rfl (by kernel_rfl) (by kernel_rfl) (by kernel_rfl) (v := ?_) (fun _ _ _ h => h) ?_ rfl hHeld ?_; rotate_left; focus (intro w hS; have h11 := HSame.out w; go_simp; try with_reducible rfl)) | (refine held_skip 11 _ rfl (by kernel_rfl) (by kernel_rfl) (by kernel_rfl) (fun _ _ _ h => h) rfl hHeld ?_)
      show wpAnyH _ _ _ _ _ _ _ { tmps := _, defers := _ } _
      try simp only [Act.put, List.setIfInBounds_toArray, List.set_cons_zero, List.set_cons_succ]
      first | (refine held_take 12 _ rfl (by kernel_rfl) (by kernel_rfl) (by kernel_rfl) (v := ?_) (fun _ _ _ h => h) ?_ rfl hHeld ?_; rotate_left; focus (intro w hS; skip; go_simp; try with_reducible rfl)) | (refine held_skip 12 _ rfl (by kernel_rfl) (by kernel_rfl) (by kernel_rfl) (fun _ _ _ h => h) rfl hHeld ?_)
      show wpAnyH _ _ _ _ _ _ _ { tmps := _, defers := _ } _
      try simp only [Act.put, List.setIfInBounds_toArray, List.set_cons_zero, List.set_cons_succ]
      first | (refine held_take 13 _ rfl (by kernel_rfl) (by kernel_rfl) (by kernel_rfl) (v := ?_) (fun _ _ _ h => h) ?_ rfl hHeld ?_; rotate_left; focus (intro w hS; skip; go_simp; try with_reducible rfl)) | (refine held_skip 13 _ rfl (by kernel_rfl) (by kernel_rfl) (by kernel_rfl) (fun _ _ _ h => h) rfl hHeld ?_)
      show wpAnyH _ _ _ _ _ _ _ { tmps := _, defers := _ } _
      try simp only [Act.put, List.setIfInBounds_toArray, List.set_cons_zero, List.set_cons_succ]
      first | (refine held_take 14 _ rfl (by kernel_rfl) (by kernel_rfl) (by kernel_rfl) (v := ?_) (fun _ _ _ h => h) ?_ rfl hHeld ?_; rotate_left; focus (intro w hS; skip; go_simp; try with_reducible rfl)) | (refine held_skip 14 _ rfl (by kernel_rfl) (by kernel_rfl) (by kernel_rfl) (fun _ _ _ h => h) rfl hHeld ?_)
      show wpAnyH _ _ _ _ _ _ _ { tmps := _, defers := _ } _
      try simp only [Act.put, List.setIfInBounds_toArray, List.set_cons_zero, List.set_cons_succ]
      first | (refine held_take 16 _ rfl (by kernel_rfl) (by kernel_rfl) (by kernel_rfl) (v := ?_) (fun _ _ _ h => h) ?_ rfl hHeld ?_; rotate_left; focus (intro w hS; skip; go_simp; try with_reducible rfl)) | (refine held_skip 16 _ rfl (by kernel_rfl) (by kernel_rfl) (by kernel_rfl) (fun _ _ _ h => h) rfl hHeld ?_)
      show wpAnyH _ _ _ _ _ _ _ { tmps := _, defers := _ } _
      try simp only [Act.put, List.setIfInBounds_toArray, List.set_cons_zero, List.set_cons_succ]
      first | (refine held_take 17 _ rfl (by kernel_rfl) (by kernel_rfl) (by kernel_rfl) (v := ?_) (fun _ _ _ h => h) ?_ rfl hHeld ?_; rotate_left; focus (intro w hS; skip; go_simp; try with_reducible rfl)) | (refine held_skip 17 _ rfl (by kernel_rfl) (by kernel_rfl) (by kernel_rfl) (fun _ _ _ h => h) rfl hHeld ?_)
      show wpAnyH _ _ _ _ _ _ _ { tmps := _, defers := _ } _
      try simp only [Act.put, List.setIfInBounds_toArray, List.set_cons_zero, List.set_cons_succ]
      first | (refine held_take 18 _ rfl (by kernel_rfl) (by kernel_rfl) (by kernel_rfl) (v := ?_) (fun _ _ _ h => h) ?_ rfl hHeld ?_; rotate_left; focus (intro w hS; skip; go_simp; try with_reducible rfl)) | (refine held_skip 18 _ rfl (by kernel_rfl) (by kernel_rfl) (by kernel_rfl) (fun _ _ _ h => h) rfl hHeld ?_)
      show wpAnyH _ _ _ _ _ _ _ { tmps := _, defers := _ } _
      try simp only [Act.put, List.setIfInBounds_toArray, List.set_cons_zero, List.set_cons_succ]
      refine held_next 15 _ (by kernel_rfl) rfl rfl fun K hK => ?_
      go_simp
      refine (HLen.out _ HQ3.out).mono ?_
      rintro e u4 ⟨rfl, r4, rfl⟩
      show K _ _
      refine hK _ _ (HS0.out _ (HRV.out _ (below_drawn r4 HQ3.out))) (fun hHeld => ?_)
      clear hK K
      have HQ4 := Lib.hid (below_drawn r4 HQ3.out)
      generalize u3.drewN r4 = u4 at hHeld HQ4 ⊢
      show wpAnyH _ _ _ _ _ _ _ { tmps := _, defers := _ } _
      try simp only [Act.put, List.setIfInBounds_toArray, List.set_cons_zero, List.set_cons_succ]
      first | (refine held_take 19 _ rfl (by kernel_rfl) (by kernel_rfl) (by kernel_rfl) (v := ?_) (fun _ _ _ h => h) ?_ rfl hHeld ?_; rotate_left; focus (intro w hS; skip; go_simp; try with_reducible rfl)) | (refine held_skip 19 _ rfl (by kernel_rfl) (by kernel_rfl) (by kernel_rfl) (fun _ _ _ h => h) rfl hHeld ?_)
      show wpAnyH _ _ _ _ _ _ _ { tmps := _, defers := _ } _
      try simp only [Act.put, List.setIfInBounds_toArray, List.set_cons_zero, List.set_cons_succ]
      first | (refine held_take 20 _ rfl (by kernel_rfl) (by kernel_rfl) (by kernel_rfl) (v := ?_) (fun _ _ _ h => h) ?_ rfl hHeld ?_; rotate_left; focus (intro w hS; skip; go_simp; try with_reducible rfl)) | (refine held_skip 20 _ rfl (by kernel_rfl) (by kernel_rfl) (by kernel_rfl) (fun _ _ _ h => h) rfl hHeld ?_)
      show wpAnyH _ _ _ _ _ _ _ { tmps := _, defers := _ } _
      try simp only [Act.put, List.setIfInBounds_toArray, List.set_cons_zero, List.set_cons_succ]
      first | (refine held_take 21 _ rfl (by kernel_rfl) (by kernel_rfl) (by kernel_rfl) (v := ?_) (fun _ _ _ h => h) ?_ rfl hHeld ?_; rotate_left; focus (intro w hS; skip; go_simp; try with_reducible rfl)) | (refine held_skip 21 _ rfl (by kernel_rfl) (by kernel_rfl) (by kernel_rfl) (fun _ _ _ h => h) rfl hHeld ?_)
      show wpAnyH _ _ _ _ _ _ _ { tmps := _, defers := _ } _
      try simp only [Act.put, List.setIfInBounds_toArray, List.set_cons_zero, List.set_cons_succ]
      first | (refine held_take 22 _ rfl (by kernel_rfl) (by kernel_rfl) (by kernel_rfl) (v := ?_) (fun _ _ _ h => h) ?_ rfl hHeld ?_; rotate_left; focus (intro w hS; skip; go_simp; try with_reducible rfl)) | (refine held_skip 22 _ rfl (by kernel_rfl) (by kernel_rfl) (by kernel_rfl) (fun _ _ _ h => h) rfl hHeld ?_)
      show wpAnyH _ _ _ _ _ _ _ { tmps := _, defers := _ } _
      try simp only [Act.put, List.setIfInBounds_toArray, List.set_cons_zero, List.set_cons_succ]
      refine held_load 24 _ rfl (by kernel_rfl) (by kernel_rfl) (by kernel_rfl) 24 (.tmp 7) rfl V 0 (Go.Lib.byteCells D) _ (fun _ _ _ h => h) rfl (fun w h => HSr.out w h) Tryd.underlying24 rfl HYc.out rfl hHeld ?_
      rw [HY.out]
      show wpAnyH _ _ _ _ _ _ _ { tmps := _, defers := _ } _
      try simp only [Act.put, List.setIfInBounds_toArray, List.set_cons_zero, List.set_cons_succ]
      refine held_next 23 _ (by kernel_rfl) rfl rfl fun K hK => ?_
      go_simp
      refine (HSum.out _ HQ4.out).mono ?_
      rintro e u5 ⟨rfl, hb5⟩
      show K _ _
      refine hK _ _ (HS0.out _ (HRV.out _ (HQ4.out.trans (hb5.mono HQ4.out.size)))) (fun hHeld => ?_)
      clear hK K
      have HQ5 := Lib.hid (HQ4.out.trans (hb5.mono HQ4.out.size))
      clear hb5
      show wpAnyH _ _ _ _ _ _ _ { tmps := _, defers := _ } _
      try simp only [Act.put, List.setIfInBounds_toArray, List.set_cons_zero, List.set_cons_succ]
      first | (refine held_take 25 _ rfl (by kernel_rfl) (by kernel_rfl) (by kernel_rfl) (v := ?_) (fun _ _ _ h => h) ?_ rfl hHeld ?_; rotate_left; focus (intro w hS; have h25 := HSame.out w; go_simp; try with_reducible rfl)) | (refine held_skip 25 _ rfl (by kernel_rfl) (by kernel_rfl) (by kernel_rfl) (fun _ _ _ h => h) rfl hHeld ?_)
      show wpAnyH _ _ _ _ _ _ _ { tmps := _, defers := _ } _
      try simp only [Act.put, List.setIfInBounds_toArray, List.set_cons_zero, List.set_cons_succ]
      first | (refine held_take 26 _ rfl (by kernel_rfl) (by kernel_rfl) (by kernel_rfl) (v := ?_) (fun _ _ _ h => h) ?_ rfl hHeld ?_; rotate_left; focus (intro w hS; skip; go_simp; try with_reducible rfl)) | (refine held_skip 26 _ rfl (by kernel_rfl) (by kernel_rfl) (by kernel_rfl) (fun _ _ _ h => h) rfl hHeld ?_)
      show wpAnyH _ _ _ _ _ _ _ { tmps := _, defers := _ } _
      try simp only [Act.put, List.setIfInBounds_toArray, List.set_cons_zero, List.set_cons_succ]
      first | (refine held_take 27 _ rfl (by kernel_rfl) (by kernel_rfl) (by kernel_rfl) (v := ?_) (fun _ _ _ h => h) ?_ rfl hHeld ?_; rotate_left; focus (intro w hS; skip; go_simp; try with_reducible rfl)) | (refine held_skip 27 _ rfl (by kernel_rfl) (by kernel_rfl) (by kernel_rfl) (fun _ _ _ h => h) rfl hHeld ?_)
      show wpAnyH _ _ _ _ _ _ _ { tmps := _, defers := _ } _
      try simp only [Act.put, List.setIfInBounds_toArray, List.set_cons_zero, List.set_cons_succ]
      refine held_next 28 _ (by kernel_rfl) rfl rfl fun K hK => ?_
      go_simp
      refine (HWorks.out _ (HT.out.below (HG2.out.trans (HQ5.out.mono HG2.out.size)))).mono ?_
      rintro e u6 ⟨rfl, hb6⟩
      show K _ _
      refine hK _ _ (HS0.out _ (HRV.out _ (HQ5.out.trans (hb6.mono HQ5.out.size)))) (fun hHeld => ?_)
      clear hK K
      have HG6 := Lib.hid (HG2.out.trans ((HQ5.out.trans (hb6.mono HQ5.out.size)).mono HG2.out.size))
      clear hb6
      show wpAnyH _ _ _ _ _ _ _ { tmps := _, defers := _ } _
      try simp only [Act.put, List.setIfInBounds_toArray, List.set_cons_zero, List.set_cons_succ]
      first | (refine held_take 29 _ rfl (by kernel_rfl) (by kernel_rfl) (by kernel_rfl) (v := ?_) (fun _ _ _ h => h) ?_ rfl hHeld ?_; rotate_left; focus (intro w hS; skip; go_simp; try with_reducible rfl)) | (refine held_skip 29 _ rfl (by kernel_rfl) (by kernel_rfl) (by kernel_rfl) (fun _ _ _ h => h) rfl hHeld ?_)
      show wpAnyH _ _ _ _ _ _ _ { tmps := _, defers := _ } _
      try simp only [Act.put, List.setIfInBounds_toArray, List.set_cons_zero, List.set_cons_succ]
      first | (refine held_take 30 _ rfl (by kernel_rfl) (by kernel_rfl) (by kernel_rfl) (v := ?_) (fun _ _ _ h => h) ?_ rfl hHeld ?_; rotate_left; focus (intro w hS; skip; go_simp; try with_reducible rfl)) | (refine held_skip 30 _ rfl (by kernel_rfl) (by kernel_rfl) (by kernel_rfl) (fun _ _ _ h => h) rfl hHeld ?_)
      show wpAnyH _ _ _ _ _ _ _ { tmps := _, defers := _ } _
      try simp only [Act.put, List.setIfInBounds_toArray, List.set_cons_zero, List.set_cons_succ]
      refine wpAnyH_done (by kernel_rfl) ?_ _
      go_wp2_with fail
      go_ret
      exact ⟨rfl, HG6.out⟩
end Go.Proofs.YtphgaemmbdogmaaDoor
