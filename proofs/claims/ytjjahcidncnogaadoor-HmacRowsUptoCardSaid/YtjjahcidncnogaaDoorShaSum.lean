/- The digest of a hash: plain, and the contract of its method Sum. -/
import Derived.Test.YtjjahcidncnogaaDoorShaNew
namespace Go.Proofs.YtjjahcidncnogaaDoor
open Go.RowKit Go.Lib

theorem calls_at {P : Program} {f : FuncId} {a : Array Value} {w v : World} {Q : Ending → World → Prop} (h : w = v) (hc : Calls P f a v Q) : Calls P f a w Q := h ▸ hc

def byteD (st : List Int) (j : Nat) : UInt8 := UInt8.ofNat (st.getD (j / 4) 0 / 2 ^ (24 - 8 * (j % 4)) % 256).toNat
def digK (st : List Int) (n : Nat) : List UInt8 := (List.range 32).map fun j => if j < n then byteD st j else 0
/-- A state as a digest. -/
def digI (st : List Int) : List UInt8 := digK st 32
theorem digK_length (st : List Int) (n : Nat) : (digK st n).length = 32 := by simp [digK]
theorem digK_step (st : List Int) (n : Nat) : (digK st n).set n (byteD st n) = digK st (n + 1) := by
  apply List.ext_getElem
  · simp [digK]
  · intro i h1 h2
    simp only [digK, List.getElem_set, List.getElem_map, List.getElem_range]
    by_cases e : n = i
    · subst e; simp
    · rw [if_neg e]
      by_cases h3 : i < n
      · rw [if_pos h3, if_pos (by omega)]
      · rw [if_neg h3, if_neg (by omega)]
theorem byteD_val (st : List Int) (j : Nat) : ((byteD st j).toNat : Int) = st.getD (j / 4) 0 / 2 ^ (24 - 8 * (j % 4)) % 256 := by
  unfold byteD
  rw [UInt8.toNat_ofNat']
  have h1 := Int.emod_nonneg (st.getD (j / 4) 0 / 2 ^ (24 - 8 * (j % 4))) (show (256 : Int) ≠ 0 by decide)
  have h2 := Int.emod_lt_of_pos (st.getD (j / 4) 0 / 2 ^ (24 - 8 * (j % 4))) (show (0 : Int) < 256 by decide)
  omega
/-- How many bytes stand behind a hash, as the program counts them. -/
def lenI (bl0 : Int) (l : List UInt8) : Nat := ((bl0 * 64 + l.length) % 18446744073709551616).toNat
theorem lenI_val (bl0 : Int) (l : List UInt8) : (blk bl0 (l.length / 64) * 64 + ((l.length % 64 : Nat) : Int)) % 18446744073709551616 = (lenI bl0 l : Int) := by
  unfold blk lenI
  omega
theorem lenI_lt (bl0 : Int) (l : List UInt8) : lenI bl0 l < 18446744073709551616 := by unfold lenI; omega
/-- The digest of a hash that began at a state and took the bytes l. -/
def sumI (st0 : List Int) (bl0 : Int) (l : List UInt8) : List UInt8 := digI (blocksI ((l ++ padL (lenI bl0 l)).length / 64) st0 (l ++ padL (lenI bl0 l)))
theorem sumI_length (st0 : List Int) (bl0 : Int) (l : List UInt8) : (sumI st0 bl0 l).length = 32 := digK_length _ _

def dig (D : List UInt8) : Value := .agg (byteCells D).toArray
def zero32 : List UInt8 := List.replicate 32 0
theorem dig_size (D : List UInt8) (hD : D.length = 32) : (Tryd.prog.info? 48).map (·.size) = some (byteCells D).toArray.size := by
  have : (byteCells D).toArray.size = 32 := by simp [bc_len, hD]
  exact (by kernel_rfl : (Tryd.prog.info? 48).map (·.size) = some 32).trans (by rw [this])
theorem dig_one (D : List UInt8) : (byteCells D).toArray.all (·.oneCell') = true := all_oneCell_toArray (byteCells_one D)

set_option maxRecDepth 100000 in
set_option maxHeartbeats 8000000 in
theorem sum_any (b : Nat) (st0 : List Int) (bl0 : Int) (l : List UInt8) (w : World) (hT : Tab w) (hH : Took b st0 bl0 l w) :
    Calls Tryd.prog 72 #[.pointer (some ⟨b, 0, none⟩)] w fun e w' => e = .returned (dig (sumI st0 bl0 l)) ∧ Below w.heap.size w w' := by
  obtain ⟨rest, hHB, hrest⟩ := hH
  have HHB := Lib.hid hHB
  have HRest := Lib.hid hrest
  have hlt := hHB.lt
  have HT := Lib.hid hT
  have hb := hHB.heap
  have hl74 := hcells_len (bl := blk bl0 (l.length / 64)) (held := ((l.length % 64 : Nat) : Int)) hHB.ls hHB.lr
  have h1c := hcells_one (blocksI (l.length / 64) st0 l) (blk bl0 (l.length / 64)) rest ((l.length % 64 : Nat) : Int)
  obtain ⟨C, hC⟩ : ∃ C, hcells (blocksI (l.length / 64) st0 l) (blk bl0 (l.length / 64)) rest ((l.length % 64 : Nat) : Int) = C := ⟨_, rfl⟩
  have HC := Lib.hid hC
  rw [hC] at hb hl74 h1c
  have HS74 : Hid ((Tryd.prog.info? 114).map (·.size) = some C.toArray.size) := Lib.hid (by rw [List.size_toArray, hl74]; exact sizeHash)
  have H1C := Lib.hid (all_oneCell_toArray h1c)
  have HZ74 : Hid (Tryd.zeroCells114.size = C.toArray.size) := Lib.hid ((show Tryd.zeroCells114.size = 74 by kernel_rfl).trans (by rw [List.size_toArray, hl74]))
  have HBW : Hid ((w.alloc (.cells (byteCells zero32).toArray 48)).heap[b]? = some (.cells C.toArray 114 (0, 0))) := Lib.hid (((MapKept.heap_alloc _ _).2 _ hlt).trans hb)
  obtain ⟨v1, hv1⟩ : ∃ v, v = (w.alloc (.cells (byteCells zero32).toArray 48)).alloc (.cells C.toArray 114) := ⟨_, rfl⟩
  have HV1 := Lib.hid hv1
  have hset := World.setRow_alloc_new (w.alloc (.cells (byteCells zero32).toArray 48)) Tryd.zeroCells114 C.toArray 114
  simp only [World.size_alloc] at hset
  have HSet := Lib.hid (hset.trans hv1.symm)
  have HTk1 : Hid (Took (w.heap.size + 1) st0 bl0 l v1) := Lib.hid (by
    refine ⟨rest, ⟨?_, hHB.ls, hHB.lr⟩, hrest⟩
    rw [hv1, hC]
    have h := (MapKept.heap_alloc (w.alloc (.cells (byteCells zero32).toArray 48)) (.cells C.toArray 114)).1
    simp only [World.size_alloc] at h
    exact h)
  have HR1 : Hid (v1.heap[w.heap.size]? = some (.cells (byteCells zero32).toArray 48 (0, 0))) := Lib.hid (by
    rw [hv1, (MapKept.heap_alloc _ _).2 _ (by simp), (MapKept.heap_alloc _ _).1])
  have HG1 : Hid (Below w.heap.size w v1) := Lib.hid (by rw [hv1]; exact ((Below.refl _ w).alloc (Nat.le_refl _) _).alloc (by simp) _)
  have HZ1 : Hid (v1.heap.size = w.heap.size + 1 + 1) := Lib.hid (by rw [hv1]; simp)
  have HB1 : Hid (HB v1 b (blocksI (l.length / 64) st0 l) (blk bl0 (l.length / 64)) rest ((l.length % 64 : Nat) : Int)) := Lib.hid (hHB.keep HG1.out hlt)
  clear hb hHB hrest hT hl74 h1c hC hv1 hset
  go_enter Tryd.func72, Tryd.ntmps72
  go_wp2_with (first
    | (refine wpList_load_row rfl 114 (.tmp 12) rfl b rfl 114 _ (0, 0) _ HBW.out Tryd.underlying114 rfl HS74.out ?_)
    | (refine wpList_store_row rfl 114 (.tmp 3) (.tmp 13) rfl (w.heap.size + 1) _ rfl rfl 114 Tryd.zeroCells114 ?hg HS74.out ?hold H1C.out ?_))
  case hold => exact HZ74.out
  case hg =>
    have h := (MapKept.heap_alloc (w.alloc (.cells (byteCells zero32).toArray 48)) (.cells Tryd.zeroCells114 114)).1
    simp only [World.size_alloc] at h
    exact h
  refine calls_at HSet.out ?_
  refine (len_any b _ _ _ _ v1 HB1.out).mono ?_
  rintro e w2 ⟨rfl, n2, rfl⟩
  rw [lenI_val]
  obtain ⟨v2, hv2⟩ : ∃ v, v = v1.drewN n2 := ⟨_, rfl⟩
  rw [← hv2]
  have HTk2 : Hid (Took (w.heap.size + 1) st0 bl0 l v2) := Lib.hid (by rw [hv2]; exact HTk1.out.drewN _)
  have HR2 : Hid (v2.heap[w.heap.size]? = some (.cells (byteCells zero32).toArray 48 (0, 0))) := Lib.hid (by rw [hv2]; exact HR1.out)
  have HG2 : Hid (Below w.heap.size w v2) := Lib.hid (by rw [hv2]; exact below_drawn _ HG1.out)
  have HZ2 : Hid (v2.heap.size = w.heap.size + 1 + 1) := Lib.hid (by rw [hv2]; exact HZ1.out)
  obtain ⟨N, hN⟩ : ∃ N, lenI bl0 l = N := ⟨_, rfl⟩
  have HN := Lib.hid hN
  have hNl : N < 18446744073709551616 := by rw [← hN]; exact lenI_lt _ _
  have HP := Lib.hid (padding_any N hNl v2)
  rw [hN]
  clear hv2 hN hNl
  go_wp2_with fail
  refine HP.out.mono ?_
  rintro e w3 ⟨rfl, hw3, hb3⟩
  have HTk3 : Hid (Took (w.heap.size + 1) st0 bl0 l w3) := Lib.hid (HTk2.out.keep hb3 (by rw [HZ2.out]; omega))
  have HR3 : Hid (w3.heap[w.heap.size]? = some (.cells (byteCells zero32).toArray 48 (0, 0))) := Lib.hid ((hb3.block _ (by rw [HZ2.out]; omega)).trans HR2.out)
  have HG3 : Hid (Below w.heap.size w w3) := Lib.hid (HG2.out.trans (hb3.mono HG2.out.size))
  have HTab3 : Hid (Tab w3) := Lib.hid (HT.out.below HG3.out)
  have hz3 := whole_lt hw3
  have HBs : Hid (Bytes w3.heap.size (w.heap.size + 1) (some ⟨v2.heap.size, 0, none⟩) (padL N) w3) := Lib.hid (whole_bytes hw3 hz3 (by rw [HZ2.out]; omega))
  have hpl : (padL N).length ≤ 140737488351232 := by
    have h := padK_length N 8 (by decide)
    have h2 : noughts N < 64 := by unfold noughts; omega
    show (padK N 8).length ≤ _
    omega
  have HTake := Lib.hid (take_any (w.heap.size + 1) st0 bl0 l (padL N) (some ⟨v2.heap.size, 0, none⟩) (padL N).length (Nat.le_refl _) hpl w3 HTab3.out HTk3.out HBs.out)
  clear hw3 hb3 hz3 hpl
  go_wp2_with fail
  refine HTake.out.mono ?_
  rintro e w4 ⟨rfl, hT4, hb4⟩
  have hlt3 := HTk3.out.lt
  have HTk4 := Lib.hid hT4
  have HR4 : Hid (w4.heap[w.heap.size]? = some (.cells (byteCells zero32).toArray 48 (0, 0))) := Lib.hid ((hb4.block _ (by omega) (by omega)).trans HR3.out)
  have HG4 : Hid (Below w.heap.size w w4) := Lib.hid (HG3.out.trans (hb4.below (by omega) HG3.out.size))
  clear hT4 hb4 hlt3
  obtain ⟨rest4, hH4, -⟩ := HTk4.out
  have HL4 : Hid ((blocksI ((l ++ padL N).length / 64) st0 (l ++ padL N)).length = 8) := Lib.hid hH4.ls
  have HFin : Hid (digI (blocksI ((l ++ padL N).length / 64) st0 (l ++ padL N)) = sumI st0 bl0 l) := Lib.hid (by unfold sumI; rw [HN.out])
  obtain ⟨F, hF⟩ : ∃ F, blocksI ((l ++ padL N).length / 64) st0 (l ++ padL N) = F := ⟨_, rfl⟩
  rw [hF] at HL4 HFin hH4
  have HSt : Hid ((w4.alloc (.cells (byteCells zero32).toArray 48)).rangeAt (w.heap.size + 1) 0 (F.map (Value.int .u32))) := Lib.hid (World.rangeAt_alloc hH4.state _)
  have HI8 : Hid ((Tryd.prog.info? 26).map (·.size) = some (F.map (Value.int .u32)).length) := Lib.hid (by rw [List.length_map, HL4.out]; exact sizeState)
  have HD : Hid ((w4.alloc (.cells (byteCells zero32).toArray 48)).heap[w4.heap.size]? = some (.cells (byteCells (digK F 0)).toArray 48 (0, 0))) := Lib.hid (by
    rw [(MapKept.heap_alloc _ _).1]
    rfl)
  have HR5 : Hid ((w4.alloc (.cells (byteCells zero32).toArray 48)).heap[w.heap.size]? = some (.cells (byteCells zero32).toArray 48 (0, 0))) := Lib.hid (((MapKept.heap_alloc _ _).2 _ (Array.getElem?_eq_some_iff.1 HR4.out).1).trans HR4.out)
  have HG5 : Hid (Below w.heap.size w (w4.alloc (.cells (byteCells zero32).toArray 48))) := Lib.hid (HG4.out.alloc HG4.out.size _)
  have HDl : Hid (w.heap.size < w4.heap.size) := Lib.hid (Array.getElem?_eq_some_iff.1 HR4.out).1
  clear hF hH4
  go_wp2_with (refine wpList_load_mid rfl 26 (.tmp 18) rfl (w.heap.size + 1) 0 rfl (F.map (Value.int .u32)) _ HSt.out Tryd.underlying26 rfl HI8.out ?_)
  have hcs : (F.map (Value.int .u32)).toArray = cells32 F := rfl
  rw [hcs]
  clear hcs
  go_loopw [20] (fun v wr => ∃ i : Nat, v = .int .i64 i ∧ i ≤ 8 ∧ Hid (wr.heap[w4.heap.size]? = some (.cells (byteCells (digK F (4 * i))).toArray 48 (0, 0))) ∧ Hid (wr.heap[w.heap.size]? = some (.cells (byteCells zero32).toArray 48 (0, 0))) ∧ Hid (Below w.heap.size w wr)) (fun v _ => 8 - (RowKit.intOf v).toNat)
  case atStart => exact ⟨0, rfl, by decide, HD, HR5, HG5⟩
  case round =>
    obtain ⟨i, rfl, hi, hd, hr, hg⟩ := hrel
    by_cases hlt : i < 8
    · have hix := fun w => index_eight F HL4.out i (by rw [HL4.out]; exact hlt) w
      obtain ⟨x, hx⟩ : ∃ x, F.getD i 0 = x := ⟨_, rfl⟩
      simp only [hx] at hix
      have HX := Lib.hid hx
      have hdl : decide ((i : Int) < 8) = true := decide_eq_true (by omega)
      obtain ⟨wo, hwo⟩ : ∃ wo : World, wo = wr := ⟨_, rfl⟩
      rw [← hwo] at hd hr hg ⊢
      have HS2 : Hid (∃ k : Nat, Value.int .i64 0 = .int .i64 k ∧ k ≤ 4 ∧ Hid (wo.heap[w4.heap.size]? = some (.cells (byteCells (digK F (4 * i + k))).toArray 48 (0, 0))) ∧ Hid (wo.heap[w.heap.size]? = some (.cells (byteCells zero32).toArray 48 (0, 0))) ∧ Hid (Below w.heap.size w wo)) := Lib.hid ⟨0, rfl, by decide, hd, hr, hg⟩
      clear hx hd hr hg hwo
      go_wp2_with fail
      go_loopw [24] (fun v wr => ∃ k : Nat, v = .int .i64 k ∧ k ≤ 4 ∧ Hid (wr.heap[w4.heap.size]? = some (.cells (byteCells (digK F (4 * i + k))).toArray 48 (0, 0))) ∧ Hid (wr.heap[w.heap.size]? = some (.cells (byteCells zero32).toArray 48 (0, 0))) ∧ Hid (Below w.heap.size w wr)) (fun v _ => 4 - (RowKit.intOf v).toNat)
      case atStart => exact HS2.out
      case round =>
        clear HS2
        obtain ⟨k, rfl, hk, hd, hr, hg⟩ := hrel
        by_cases hlk : k < 4
        · have hdk : decide ((k : Int) < 4) = true := decide_eq_true (by omega)
          obtain ⟨j, hj⟩ : ∃ j, 4 * i + k = j := ⟨_, rfl⟩
          obtain ⟨sh, hsh⟩ : ∃ sh, 24 - 8 * k = sh := ⟨_, rfl⟩
          have HV : Hid (x / 2 ^ sh % 256 = ((byteD F j).toNat : Int)) := Lib.hid (by
            rw [byteD_val, ← hj, show (4 * i + k) / 4 = i from by omega, show (4 * i + k) % 4 = k from by omega, HX.out, ← hsh])
          have HJ : Hid (4 * i + (k + 1) = j + 1) := Lib.hid (by omega)
          rw [hj] at hd
          have x1 : (24 : Int) - 8 * (k : Int) = (sh : Int) := by omega
          have x2 : (4 : Int) * (i : Int) + (k : Int) = (j : Int) := by omega
          have x3 : (j : Int) < 32 := by omega
          have x4 : j < 32 := by omega
          have x5 : (sh : Int) ≤ 32 := by omega
          have hl : j < (digK F j).length := by rw [digK_length]; exact x4
          have c1 : wr.cell? ⟨w4.heap.size, j, none⟩ = some (.int .u8 (digK F j)[j].toNat) := by
            rw [cell_of_heap hd.out]
            simp [byteCells, List.getElem?_eq_getElem hl]
          have f1 : wr.frozen? ⟨w4.heap.size, j, none⟩ = false := frozen_of_heap hd.out _
          generalize (digK F j)[j].toNat = y at c1
          clear hl hj hsh
          go_wp2_with fail
          go_roundw
          case rel =>
            rw [HV.out]
            refine ⟨k + 1, by go_num, hlk, Lib.hid ?_, Lib.hid ?_, Lib.hid (hg.out.setCell (by simp only; have := HDl.out; omega) _)⟩
            · rw [HJ.out, Go.Joins.block_setCell hd.out _, List.setIfInBounds_toArray, ← digK_step F j]
              congr 3
              simp [byteCells, List.map_set]
            · rw [Below.heap_setCell _ _ _ _ (by simp only; have := HDl.out; omega)]
              exact hr.out
          case measure => simp [RowKit.intOf]; omega
        · obtain rfl : k = 4 := by omega
          rw [show 4 * i + 4 = 4 * (i + 1) from by omega] at hd
          clear hlk hk
          rw [show ((4 : Nat) : Int) = 4 from rfl]
          go_wp2_with fail
          go_roundw
          case rel => exact ⟨i + 1, by go_num, hlt, hd, hr, hg⟩
          case measure => simp [RowKit.intOf]; omega
    · obtain rfl : i = 8 := by omega
      have HIx : Hid ((Tryd.prog.info? 48).map (·.size) = some (byteCells (digK F (4 * 8))).toArray.size) := Lib.hid (dig_size _ (digK_length _ _))
      have H1x := Lib.hid (dig_one (digK F (4 * 8)))
      have HOx : Hid ((byteCells zero32).toArray.size = (byteCells (digK F (4 * 8))).toArray.size) := Lib.hid (by rw [List.size_toArray, List.size_toArray, bc_len, bc_len, digK_length]; rfl)
      have HXe : Hid (Value.agg (byteCells (digK F (4 * 8))).toArray = dig (sumI st0 bl0 l)) := Lib.hid (by rw [← HFin.out]; rfl)
      obtain ⟨X, hX⟩ : ∃ X, (byteCells (digK F (4 * 8))).toArray = X := ⟨_, rfl⟩
      rw [hX] at hd HIx H1x HOx HXe
      have HV6 : Hid ((wr.setRow w.heap.size X).heap[w.heap.size]? = some (.cells X 48 (0, 0))) := Lib.hid (setRow_heap wr _ _ _ _ _ hr.out)
      have HG6 : Hid (Below w.heap.size w (wr.setRow w.heap.size X)) := Lib.hid (hg.out.trans ⟨rfl, rfl, rfl, by simp, fun k hk => setRow_other wr _ k _ (by omega)⟩)
      clear hX hlt hi hg
      rw [show ((8 : Nat) : Int) = 8 from rfl]
      go_wp2_with (first
        | (refine wpList_load_row rfl 48 (.tmp 4) rfl w4.heap.size rfl 48 _ (0, 0) _ hd.out Tryd.underlying48 rfl HIx.out ?_)
        | (refine wpList_store_row rfl 48 (.tmp 2) (.tmp 41) rfl w.heap.size X rfl rfl 48 _ hr.out HIx.out HOx.out H1x.out ?_))
      exact bodyPost_ret (results_cell_row rfl _ _ w.heap.size 48 X (0, 0) _ rfl HV6.out Tryd.underlying48 rfl HIx.out) rfl ⟨by rw [← HXe.out], HG6.out⟩
end Go.Proofs.YtjjahcidncnogaaDoor
