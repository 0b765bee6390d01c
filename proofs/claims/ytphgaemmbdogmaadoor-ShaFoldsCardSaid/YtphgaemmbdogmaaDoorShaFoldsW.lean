/- ShaFolds, walked. -/
import Derived.Test.YtphgaemmbdogmaaDoorShaTab
import Derived.Test.YtphgaemmbdogmaaDoorShaPadC
import Derived.Test.YtphgaemmbdogmaaDoorShaCmp
import Derived.Test.YtphgaemmbdogmaaDoorConcat
import Derived.Test.YtphgaemmbdogmaaDoorHeld
namespace Go.Proofs.YtphgaemmbdogmaaDoor
open Go.ChangeShapes Go.WideShapes Go.ChangeAt Go.RowKit Go.Lib

theorem owns_le {w : World} {B n c : Nat} {q : Option Addr} {xs : List Value} (h : w.ownsRow B 5 1 (.slice q n c) n xs) : n ≤ c := by
  rcases h.2 with ⟨h1, h0⟩ | ⟨g, cap, cur, h1, _, _, hc, _⟩
  · omega
  · simp only [Value.slice.injEq] at h1
    omega
/-- Two parts, in a block of their own. -/
def pairF {α : Type} (x y : α) (i : Nat) : α := if i = 0 then x else y
theorem cat_two (l m : List UInt8) : cat (pairF l m) 2 = l ++ m := rfl
theorem parts_two {w : World} {g b : Nat} {p q : Option Addr} {l m : List UInt8} {c d : Nat} (h0 : w.cell? ⟨g, 0, none⟩ = some (.slice p l.length c)) (h1 : w.cell? ⟨g, 1, none⟩ = some (.slice q m.length d)) (hg : g < b)
    (hB : Bytes b b p l w) (hC : Bytes b b q m w) (hl : l.length ≤ c) (hm : m.length ≤ d) (hl2 : l.length ≤ 140737488351232) (hm2 : m.length ≤ 140737488351232) :
    Parts b (some ⟨g, 0, none⟩) 2 (pairF p q) (pairF c d) (pairF l m) w :=
  ⟨fun _ => ⟨g, 0, rfl, hg, fun i hi => by
      obtain rfl | rfl : i = 0 ∨ i = 1 := by omega
      · exact h0
      · exact h1⟩, fun i hi => by
      obtain rfl | rfl : i = 0 ∨ i = 1 := by omega
      · exact ⟨hB, hl, hl2⟩
      · exact ⟨hC, hm, hm2⟩⟩
theorem Parts.at {b b' : Nat} {p : Option Addr} {N : Nat} {P : Nat → Option Addr} {C : Nat → Nat} {L : Nat → List UInt8} {w : World} (h : Parts b p N P C L w) (hb : b ≤ b') : Parts b' p N P C L w :=
  ⟨fun hN => let ⟨pb, off, hp, h1, h2⟩ := h.1 hN; ⟨pb, off, hp, by omega, h2⟩, fun i hi => let ⟨h1, h2, h3⟩ := h.2 i hi; ⟨h1.at hb hb, h2, h3⟩⟩

theorem dig_set {w : World} {D n : Nat} {F : List Int} (h : w.heap[D]? = some (.cells (Go.Lib.byteCells (digK F n)).toArray 24 (0, 0))) :
    (w.setCell ⟨D, n, none⟩ (.int .u8 ((byteD F n).toNat : Int))).heap[D]? = some (.cells (Go.Lib.byteCells (digK F (n + 1))).toArray 24 (0, 0)) := by
  rw [Go.Joins.block_setCell h _, List.setIfInBounds_toArray, ← digK_step F n]
  congr 3
  simp [Go.Lib.byteCells, List.map_set]
/-- The bytes and what stands behind them come to whole blocks. -/
theorem all_whole (b : List UInt8) : (b ++ padL b.length).length % 64 = 0 := by
  rw [List.length_append, padL_length]
  exact noughts_fit b.length
theorem sha_folds (b : List UInt8) (h : b.length < 18446744073709551616) : shaL b = digI (blocksI ((b ++ padL b.length).length / 64) firstI (b ++ padL b.length)) := by
  have e : lenI 0 b = b.length := by unfold lenI; omega
  unfold shaL sumI
  rw [e]

set_option maxRecDepth 100000 in
set_option maxHeartbeats 16000000 in
theorem shaFolds_walk (a : Option Addr) (c : Nat) (l : List UInt8) (W : World) (hT : Tab W) (hn : a = none → l = []) (hB : Bytes W.heap.size W.heap.size a l W) (hm : l.length ≤ 140737488351232) (hc : l.length ≤ c) (hc0 : a = none → c = 0) :
    Calls Tryd.prog 8 #[.slice a l.length c] W fun e w' => e = .returned (.bool true) ∧ Below W.heap.size W w' := by
  have HT := Lib.hid hT
  have HB := Lib.hid hB
  have HWorks := Lib.hid (fun w (h : Tab w) => works_any w h)
  have HFirst := Lib.hid (fun w => first_any w)
  have HPad := Lib.hid (pad_ok l.length (by omega) W)
  have HPl := Lib.hid (padL_length l.length)
  have HNo := Lib.hid (noughts_lt l.length)
  have HN := Lib.hid hn
  have HC0 := Lib.hid hc0
  have HFold := Lib.hid (sha_folds l (by omega))
  have HAll := Lib.hid (all_whole l)
  obtain ⟨n, hnn⟩ : ∃ n, l.length = n := ⟨_, rfl⟩
  obtain ⟨pd, hpd⟩ : ∃ pd, padL l.length = pd := ⟨_, rfl⟩
  obtain ⟨z, hz⟩ : ∃ z, noughts l.length = z := ⟨_, rfl⟩
  have HLn := Lib.hid hnn
  rw [hpd] at HPad HPl HFold HAll
  rw [hz] at HPl HNo
  rw [HPl.out] at HPad
  rw [hnn] at HPad hm hc ⊢
  have e1 : IntKind.u64.wrap (n : Int) = (n : Int) := by show (n : Int) % 18446744073709551616 = _; omega
  clear hT hB hn hc0 hnn hpd hz
  go_enter Tryd.func8, Tryd.ntmps8
  go_wp2_with fail
  refine HPad.out.mono ?_
  rintro e w1 ⟨rfl, hw, hb1⟩
  have HWh := Lib.hid hw
  have HG1 := Lib.hid hb1
  clear hw hb1
  go_wp2_with fail
  obtain ⟨v2, hv2⟩ : ∃ v, v = w1.alloc (.cells #[Value.slice a n c, Value.slice (some ⟨W.heap.size, 0, none⟩) (z + 9) (z + 9)] 29) := ⟨_, rfl⟩
  have HG2 : Hid (Below W.heap.size W v2) := Lib.hid (by rw [hv2]; exact HG1.out.alloc HG1.out.size _)
  have HZ2 : Hid (v2.heap.size = w1.heap.size + 1) := Lib.hid (by rw [hv2]; simp)
  have HWh2 : Hid (Whole W.heap.size pd v2) := Lib.hid (by rw [hv2]; exact ((MapKept.heap_alloc _ _).2 _ (whole_lt HWh.out)).trans HWh.out)
  have HB2 : Hid (Bytes W.heap.size W.heap.size a l v2) := Lib.hid (HB.out.keep HG2.out)
  have HCell : Hid (v2.heap[w1.heap.size]? = some (.cells #[Value.slice a n c, Value.slice (some ⟨W.heap.size, 0, none⟩) (z + 9) (z + 9)] 29 (0, 0))) := Lib.hid (by rw [hv2]; exact (MapKept.heap_alloc _ _).1)
  have HParts : Hid (Parts v2.heap.size (some ⟨w1.heap.size, 0, none⟩) 2 (pairF a (some ⟨W.heap.size, 0, none⟩)) (pairF c (z + 9)) (pairF l pd) v2) := Lib.hid (by
    have hs := HG1.out.size
    have hz := HZ2.out
    have hw := whole_lt HWh.out
    have hno := HNo.out
    refine parts_two ?_ ?_ (by omega) (HB2.out.at (by omega) (by omega)) (whole_bytes HWh2.out (by omega) (by omega)) (by rw [HLn.out]; exact hc) (by rw [HPl.out]; exact Nat.le_refl _) (by rw [HLn.out]; exact hm) (by rw [HPl.out]; omega)
    · rw [cell_of_heap HCell.out, HLn.out]; rfl
    · rw [cell_of_heap HCell.out, HPl.out]; rfl)
  have HCat := Lib.hid (concat_any (some ⟨w1.heap.size, 0, none⟩) 2 2 (by decide) _ _ _ v2 HParts.out (fun i hi hp => by
    obtain rfl | rfl : i = 0 ∨ i = 1 := by omega
    · exact ⟨HN.out hp, HC0.out hp⟩
    · cases hp) (by rw [cat_two, List.length_append, HLn.out, HPl.out]; have := HNo.out; omega))
  rw [cat_two] at HCat
  obtain ⟨A, hA⟩ : ∃ A, l ++ pd = A := ⟨_, rfl⟩
  obtain ⟨m, hmm⟩ : ∃ m, A.length = m := ⟨_, rfl⟩
  have HAm := Lib.hid hmm
  rw [hA] at HFold HAll HCat
  rw [hmm] at HFold HAll HCat
  have hm64 : (m : Int) % 64 = 0 := by have := HAll.out; omega
  rw [← hv2]
  clear hv2 hA hmm e1
  refine HCat.out.mono ?_
  rintro e w3 ⟨v3, rfl, ho3, hb3⟩
  obtain ⟨q3, c3, rfl, -, hby3⟩ := owns_bytes ho3 HAm.out
  have hmc3 := owns_le ho3
  have HBy3 := Lib.hid hby3
  have HG3 : Hid (Below W.heap.size W w3) := Lib.hid (HG2.out.trans (hb3.mono HG2.out.size))
  clear ho3 hby3 hb3
  go_wp2_with fail
  refine (HFirst.out _).mono ?_
  rintro e w4 ⟨rfl, hb4⟩
  have HBy4 : Hid (Bytes w3.heap.size w3.heap.size q3 A w4) := Lib.hid (HBy3.out.keep hb4)
  have HZ4 : Hid (w3.heap.size ≤ w4.heap.size) := Lib.hid hb4.size
  have HG4 : Hid (Below W.heap.size W w4) := Lib.hid (HG3.out.trans (hb4.mono HG3.out.size))
  have HIS : Hid ((Tryd.prog.info? 26).map (·.size) = some (cells32 firstI).size) := Lib.hid (by rw [cells32_size]; exact sizeState)
  clear hb4
  go_wp2_with (refine wpList_store_row rfl 26 (.tmp 6) (.tmp 29) rfl w4.heap.size (cells32 firstI) rfl rfl 26 (cells32 zeros8) ?hg HIS.out rfl (cells32_one _) ?_)
  case hg => exact (MapKept.heap_alloc w4 _).1
  rw [World.setRow_alloc_new]
  obtain ⟨v5, hv5⟩ : ∃ v, v = w4.alloc (.cells (cells32 firstI) 26) := ⟨_, rfl⟩
  have HG5 : Hid (Below W.heap.size W v5) := Lib.hid (by rw [hv5]; exact HG4.out.alloc HG4.out.size _)
  have HS5 : Hid (v5.heap[w4.heap.size]? = some (.cells (cells32 firstI) 26 (0, 0))) := Lib.hid (by rw [hv5]; exact (MapKept.heap_alloc _ _).1)
  have HBy5 : Hid (Bytes w3.heap.size w3.heap.size q3 A v5) := Lib.hid (by rw [hv5]; exact HBy4.out.keep ((Below.refl _ w4).alloc HZ4.out _))
  obtain ⟨B, hBB⟩ : ∃ B, B = w4.heap.size := ⟨_, rfl⟩
  have HBl : Hid (w3.heap.size ≤ B) := Lib.hid (by rw [hBB]; exact HZ4.out)
  have HWB : Hid (W.heap.size ≤ B) := Lib.hid (by rw [hBB]; exact HG4.out.size)
  rw [← hBB] at HS5 ⊢
  rw [← hv5]
  clear hv5 hBB hm64
  have HStart : Hid (∃ (k : Nat) (q : Option Addr) (j d : Nat), Value.slice q3 m c3 = .slice q j d ∧ j ≤ d ∧ 64 * k + j = m ∧ Hid (Bytes w3.heap.size w3.heap.size q (A.drop (64 * k)) v5) ∧ Hid (v5.heap[B]? = some (.cells (cells32 (blocksI k firstI A)) 26 (0, 0))) ∧ Hid (Below W.heap.size W v5)) := Lib.hid ⟨0, q3, m, c3, rfl, hmc3, by omega, HBy5, HS5, HG5⟩
  simp only [Act.put]
  go_loopw [5] (fun s wr => ∃ (k : Nat) (q : Option Addr) (j d : Nat), s = .slice q j d ∧ j ≤ d ∧ 64 * k + j = m ∧ Hid (Bytes w3.heap.size w3.heap.size q (A.drop (64 * k)) wr) ∧ Hid (wr.heap[B]? = some (.cells (cells32 (blocksI k firstI A)) 26 (0, 0))) ∧ Hid (Below W.heap.size W wr)) (fun s _ => lenOf s)
  case atStart => exact HStart.out
  case round =>
    clear HStart hmc3
    obtain ⟨k, q, j, d, rfl, hjd, hkj, hby, hst, hg⟩ := hrel
    by_cases hlt : 0 < j
    · have hj64 : 64 ≤ j := by have := HAll.out; omega
      have hdl : decide ((0 : Int) < (j : Int)) = true := decide_eq_true (by omega)
      obtain ⟨pb, off, rfl, hp1, hp2, hp3⟩ := hby.out (by intro e; have h := congrArg List.length e; rw [List.length_drop, HAm.out] at h; simp at h; omega)
      have hrg : wr.rangeAt pb off (Go.Lib.byteCells ((A.drop (64 * k)).take 64)) := fun i v hi => by
        have hi64 : i < 64 := by
          have := (List.getElem?_eq_some_iff.1 hi).1
          rw [bc_len, List.length_take] at this
          omega
        rw [hp3 i (by rw [List.length_drop, HAm.out]; omega)]
        simp only [Go.Lib.byteCells, List.getElem?_map, List.getElem?_take, hi64, if_true] at hi
        rw [List.getElem?_eq_getElem (by rw [List.length_drop, HAm.out]; omega)] at hi
        exact hi
      have hl64 : ((A.drop (64 * k)).take 64).length = 64 := by rw [List.length_take, List.length_drop, HAm.out]; omega
      have hls : (blocksI k firstI A).length = 8 := blocksI_length _ _ _
      have hld : (Instr.loadAt 26 (.pointer (some ⟨B, 0, none⟩))).run Tryd.prog wr.drew = .ok (.agg (cells32 (blocksI k firstI A))) wr.drew := by
        simp only [Instr.loadAt, Instr.sureAddr, Sem.run_bind, Sem.run_pure, Result.andThen_ok]
        exact run_loadVar_row wr.drew B 26 26 _ (0, 0) _ hst.out Tryd.underlying26 rfl (by rw [cells32_size, hls]; exact sizeState)
      have hlr : (Instr.loadAt 67 (.pointer (some ⟨pb, off, none⟩))).run Tryd.prog wr.drew = .ok (.agg (cells8 (bI ((A.drop (64 * k)).take 64)))) wr.drew := by
        rw [cells8_bI]
        exact run_loadAt_mid wr.drew pb off 67 _ _ hrg Tryd.underlying67 rfl (by rw [bc_len, hl64]; exact sizeBlock)
      have HRd := Lib.hid (round_any (blocksI k firstI A) (bI ((A.drop (64 * k)).take 64)) hls (by rw [bI_length, hl64]) (bI_range _) wr.drew (HT.out.below (below_drawn 1 hg.out)))
      have HSn : Hid (roundI (blocksI k firstI A) (bI ((A.drop (64 * k)).take 64)) = blocksI (k + 1) firstI A) := Lib.hid (blocksI_snoc k firstI A).symm
      have HLd := Lib.hid hld
      have HLr := Lib.hid hlr
      have HLs := Lib.hid hls
      have harr := arrBlock (some ⟨pb, off, none⟩) j d hj64
      obtain ⟨q1, hq1, hB1⟩ := slice_from (some ⟨pb, off, none⟩) j d 64 hj64 hjd
      rw [show ((64 : Nat) : Int) = 64 from rfl] at hq1
      have HB1 := Lib.hid hB1
      have HJ := Lib.hid hkj
      have HJd := Lib.hid hjd
      have HJ64 := Lib.hid hj64
      clear hrg hl64 hls hld hlr hB1 hp3
      go_wp2_with fail
      refine wp_region_any (by kernel_rfl) ?_
      refine wpAny_take (i := 1) (v := .slice (some ⟨pb, off, none⟩) j d) rfl (by kernel_rfl) (by kernel_rfl) (by kernel_rfl) (fun _ _ _ h => h) (Or.inl ⟨rfl, fun w => by go_simp⟩) ?_
      refine wpAny_take (i := 2) (v := .pointer (some ⟨pb, off, none⟩)) rfl (by kernel_rfl) (by kernel_rfl) (by kernel_rfl) (fun _ _ _ h => h) (Or.inl ⟨rfl, fun w => by go_simp⟩) ?_
      show wpAny _ _ _ _ _ _ { tmps := _, defers := _ } _
      simp only [Act.put, List.setIfInBounds_toArray, List.set_cons_zero, List.set_cons_succ]
      refine any_loads 0 3 _ _ (.agg (cells32 (blocksI k firstI A))) (.agg (cells8 (bI ((A.drop (64 * k)).take 64)))) (by kernel_rfl) rfl rfl (by kernel_rfl) (by kernel_rfl) rfl rfl rfl rfl (run_execLoad _ _ rfl HLd.out) (run_execLoad _ _ rfl HLr.out) (run_execLoad _ _ rfl HLr.out) (run_execLoad _ _ rfl HLd.out) rfl rfl ?_
      show wpAny _ _ _ _ _ _ { tmps := _, defers := _ } _
      simp only [Act.put, List.setIfInBounds_toArray, List.set_cons_zero, List.set_cons_succ]
      refine any_one 4 _ (by kernel_rfl) rfl rfl fun K hK => ?_
      go_simp
      refine HRd.out.mono ?_
      rintro e w5 ⟨rfl, hb5⟩
      show K _ _
      refine hK _ _ ?_
      clear hK K
      have hb5' : Below wr.heap.size wr w5 := (below_drawn 1 (Below.refl _ wr)).trans hb5
      have hBlt : B < wr.heap.size := (Array.getElem?_eq_some_iff.1 hst.out).1
      have HS5b : Hid (w5.heap[B]? = some (.cells (cells32 (blocksI k firstI A)) 26 (0, 0))) := Lib.hid ((hb5'.block B hBlt).trans hst.out)
      have hl8 : (roundI (blocksI k firstI A) (bI ((A.drop (64 * k)).take 64))).length = 8 := by rw [roundI_length]; exact HLs.out
      refine any_one 5 _ (by kernel_rfl) rfl rfl fun K hK => ?_
      refine wp_store_row 26 (.tmp 6) (.tmp 39) rfl B (cells32 (roundI (blocksI k firstI A) (bI ((A.drop (64 * k)).take 64)))) rfl rfl 26 _ HS5b.out (by rw [cells32_size, hl8]; exact sizeState) (by rw [cells32_size, cells32_size, HLs.out, hl8]) (cells32_one _) ?_
      refine hK _ _ ?_
      clear hK K
      rw [HSn.out]
      obtain ⟨w6, hw6⟩ : ∃ v, v = w5.setRow B (cells32 (blocksI (k + 1) firstI A)) := ⟨_, rfl⟩
      have HS6 : Hid (w6.heap[B]? = some (.cells (cells32 (blocksI (k + 1) firstI A)) 26 (0, 0))) := Lib.hid (by rw [hw6]; exact setRow_heap w5 _ _ _ _ _ HS5b.out)
      have hgb : ∀ b, b ≤ B → b ≤ wr.heap.size → Below b wr w6 := fun b hb hb2 => (hb5'.mono hb2).trans ⟨by rw [hw6]; rfl, by rw [hw6]; rfl, by rw [hw6]; rfl, by rw [hw6]; simp, fun x hx => by rw [hw6]; exact setRow_other w5 _ x _ (by omega)⟩
      have HG6 : Hid (Below W.heap.size W w6) := Lib.hid (hg.out.trans (hgb _ HWB.out hg.out.size))
      have HBy6 : Hid (Bytes w3.heap.size w3.heap.size q1 (A.drop (64 * (k + 1))) w6) := Lib.hid (by
        have h := HB1.out (A.drop (64 * k)) wr w3.heap.size w3.heap.size (by rw [List.length_drop, HAm.out]; have := HJ.out; omega) hby.out
        rw [List.drop_drop, show 64 * k + 64 = 64 * (k + 1) from by omega] at h
        exact h.keep (hgb _ HBl.out (by have := HBl.out; omega)))
      rw [← hw6]
      clear hw6 hgb hb5 hb5' hBlt hl8
      show wpAny _ _ _ _ _ _ { tmps := _, defers := _ } _
      try simp only [Act.put, List.setIfInBounds_toArray, List.set_cons_zero, List.set_cons_succ]
      refine wpAny_done (by kernel_rfl) ?_ _
      go_wp2_with fail
      go_roundw
      case rel => exact ⟨k + 1, q1, j - 64, d - 64, rfl, by have := HJd.out; omega, by have := HJ.out; have := HJ64.out; omega, HBy6, HS6, HG6⟩
      case measure => have := HJ64.out; simp [lenOf]; omega
    · obtain rfl : j = 0 := by omega
      have hk64 : A.length / 64 = k := by rw [HAm.out]; omega
      have HFin : Hid (shaL l = digI (blocksI k firstI A)) := Lib.hid (by rw [HFold.out, ← HAm.out, hk64])
      have hls : (blocksI k firstI A).length = 8 := blocksI_length _ _ _
      obtain ⟨F, hF⟩ : ∃ F, blocksI k firstI A = F := ⟨_, rfl⟩
      rw [hF] at hst HFin hls
      have HL8 := Lib.hid hls
      have hBlt : B < wr.heap.size := (Array.getElem?_eq_some_iff.1 hst.out).1
      have HBlt := Lib.hid hBlt
      have HI8 : Hid ((Tryd.prog.info? 26).map (·.size) = some (cells32 F).size) := Lib.hid (by rw [cells32_size, hls]; exact sizeState)
      have HS7 : Hid ((wr.alloc (.cells (Go.Lib.byteCells zero32).toArray 24)).heap[B]? = some (.cells (cells32 F) 26 (0, 0))) := Lib.hid (((MapKept.heap_alloc _ _).2 _ hBlt).trans hst.out)
      have HD7 : Hid ((wr.alloc (.cells (Go.Lib.byteCells zero32).toArray 24)).heap[wr.heap.size]? = some (.cells (Go.Lib.byteCells (digK F 0)).toArray 24 (0, 0))) := Lib.hid (by
        rw [(MapKept.heap_alloc _ _).1]
        rfl)
      have HG7 : Hid (Below W.heap.size W (wr.alloc (.cells (Go.Lib.byteCells zero32).toArray 24))) := Lib.hid (hg.out.alloc hg.out.size _)
      obtain ⟨wq, hwq⟩ : ∃ wq : World, wq = wr := ⟨_, rfl⟩
      have HWq : Hid (W.heap.size ≤ wq.heap.size) := Lib.hid (by rw [hwq]; exact hg.out.size)
      rw [← hwq] at HS7 HD7 HG7 ⊢
      clear hF hls hBlt hk64 hwq hby hst hg hlt hjd hkj HBlt
      go_wp2_with (refine wpList_load_row rfl 26 (.tmp 6) rfl B rfl 26 _ (0, 0) _ HS7.out Tryd.underlying26 rfl HI8.out ?_)
      go_loopw [41] (fun v wr => ∃ i : Nat, v = .int .i64 i ∧ i ≤ 8 ∧ Hid (wr.heap[wq.heap.size]? = some (.cells (Go.Lib.byteCells (digK F (4 * i))).toArray 24 (0, 0))) ∧ Hid (Below W.heap.size W wr)) (fun v _ => 8 - (RowKit.intOf v).toNat)
      case atStart => exact ⟨0, rfl, by decide, HD7, HG7⟩
      case round =>
        obtain ⟨i, rfl, hi, hd, hg⟩ := hrel
        by_cases hlt : i < 8
        · have hix := fun w => index_eight F HL8.out i (by rw [HL8.out]; exact hlt) w
          obtain ⟨x, hx⟩ : ∃ x, F.getD i 0 = x := ⟨_, rfl⟩
          simp only [hx] at hix
          obtain ⟨j, hj⟩ : ∃ j, 4 * i = j := ⟨_, rfl⟩
          have hby : ∀ r, r < 4 → ((byteD F (j + r)).toNat : Int) = x / 2 ^ (24 - 8 * r) % 256 := fun r hr => by
            rw [byteD_val, ← hj, show (4 * i + r) / 4 = i from by omega, show (4 * i + r) % 4 = r from by omega, hx]
          have HV0 : Hid (x / 16777216 % 256 = ((byteD F j).toNat : Int)) := Lib.hid (hby 0 (by decide)).symm
          have HV1 : Hid (x / 65536 % 256 = ((byteD F (j + 1)).toNat : Int)) := Lib.hid (hby 1 (by decide)).symm
          have HV2 : Hid (x / 256 % 256 = ((byteD F (j + 2)).toNat : Int)) := Lib.hid (hby 2 (by decide)).symm
          have HV3 : Hid (x % 256 = ((byteD F (j + 3)).toNat : Int)) := Lib.hid (by rw [hby 3 (by decide)]; simp)
          have HJ : Hid (4 * (i + 1) = j + 1 + 1 + 1 + 1) := Lib.hid (by omega)
          rw [hj] at hd
          have x0 : (4 : Int) * (i : Int) = (j : Int) := by omega
          have x1 : (j : Int) + 3 < 32 := by omega
          have x2 : j + 3 < 32 := by omega
          have t1 : ((j : Int) + 1).toNat = j + 1 := by omega
          have t2 : ((j : Int) + 2).toNat = j + 2 := by omega
          have t3 : ((j : Int) + 3).toNat = j + 3 := by omega
          have p1 : (0 : Int) ≤ (j : Int) + 1 := by omega
          have p2 : (0 : Int) ≤ (j : Int) + 2 := by omega
          have p3 : (0 : Int) ≤ (j : Int) + 3 := by omega
          have m0 : (j : Int) < 32 := by omega
          have m1 : (j : Int) + 1 < 32 := by omega
          have m2 : (j : Int) + 2 < 32 := by omega
          have hdl : decide ((i : Int) < 8) = true := decide_eq_true (by omega)
          have cell : ∀ r, r < 4 → ∃ y, wr.cell? ⟨wq.heap.size, j + r, none⟩ = some (.int .u8 y) := fun r hr => by
            have hl : j + r < (digK F j).length := by rw [digK_length]; omega
            refine ⟨(digK F j)[j + r].toNat, ?_⟩
            rw [cell_of_heap hd.out]
            simp [Go.Lib.byteCells, List.getElem?_eq_getElem hl]
          obtain ⟨y0, c0⟩ := cell 0 (by decide)
          rw [Nat.add_zero] at c0
          obtain ⟨y1, c1⟩ := cell 1 (by decide)
          obtain ⟨y2, c2⟩ := cell 2 (by decide)
          obtain ⟨y3, c3⟩ := cell 3 (by decide)
          have f0 : wr.frozen? ⟨wq.heap.size, j, none⟩ = false := frozen_of_heap hd.out _
          have f1 : wr.frozen? ⟨wq.heap.size, j + 1, none⟩ = false := frozen_of_heap hd.out _
          have f2 : wr.frozen? ⟨wq.heap.size, j + 2, none⟩ = false := frozen_of_heap hd.out _
          have f3 : wr.frozen? ⟨wq.heap.size, j + 3, none⟩ = false := frozen_of_heap hd.out _
          clear cell hx hby hj
          go_wp2_with fail
          go_roundw
          case rel =>
            rw [HV0.out, HV1.out, HV2.out, HV3.out]
            refine ⟨i + 1, by go_num, hlt, Lib.hid ?_, Lib.hid ((((hg.out.setCell HWq.out _).setCell HWq.out _).setCell HWq.out _).setCell HWq.out _)⟩
            rw [HJ.out]
            exact dig_set (dig_set (dig_set (dig_set hd.out)))
          case measure => simp [RowKit.intOf]; omega
        · obtain rfl : i = 8 := by omega
          have hd' : wr.heap[wq.heap.size]? = some (.cells (Go.Lib.byteCells (digI F)).toArray 24 (0, 0)) := hd.out
          have HRg : Hid (wr.rangeAt wq.heap.size 0 (Go.Lib.byteCells (digI F))) := Lib.hid (fun j x hx => by rw [cell_of_heap hd', Nat.zero_add, List.getElem?_toArray, hx])
          have hDlt : wq.heap.size < wr.heap.size := (Array.getElem?_eq_some_iff.1 hd').1
          have HDlt := Lib.hid hDlt
          have h32 : (digI F).length = 32 := digK_length _ _
          have HI : Hid ((Tryd.prog.info? 24).map (·.size) = some (Go.Lib.byteCells (digI F)).length) := Lib.hid (by rw [bc_len, h32]; kernel_rfl)
          have heq2 : ∀ w, (Op.equalIn 10000 24 (.agg (Go.Lib.byteCells (digI F)).toArray) (.agg (Go.Lib.byteCells (digI F)).toArray)).run Tryd.prog w = .ok true w := fun w => dig_same (digI F) h32 w
          have HG8 := hg
          clear hd hd' hDlt h32 hlt hi hg
          rw [show ((8 : Nat) : Int) = 8 from rfl]
          go_wp2_with fail
          refine wp_region_held_drew (S := fun w' => w'.rangeAt wq.heap.size 0 (Go.Lib.byteCells (digI F)) ∧ Below wr.heap.size wr w') (by kernel_rfl) ⟨HRg.out, below_drawn 1 (Below.refl _ _)⟩ (fun hHeld => ?_)
          refine held_load 0 _ rfl (by kernel_rfl) (by kernel_rfl) (by kernel_rfl) 24 (.tmp 7) rfl wq.heap.size 0 (Go.Lib.byteCells (digI F)) _ (fun _ _ _ h => h) rfl (fun _ h => h.1) Tryd.underlying24 rfl HI.out rfl hHeld ?_
          show wpAnyH _ _ _ _ _ _ _ { tmps := _, defers := _ } _
          try simp only [Act.put, List.setIfInBounds_toArray, List.set_cons_zero, List.set_cons_succ]
          first | (refine held_take 1 _ rfl (by kernel_rfl) (by kernel_rfl) (by kernel_rfl) (v := ?_) (fun _ _ _ h => h) ?_ rfl hHeld ?_; rotate_left; focus (intro w hS; go_simp; try with_reducible rfl)) | (refine held_skip 1 _ rfl (by kernel_rfl) (by kernel_rfl) (by kernel_rfl) (fun _ _ _ h => h) rfl hHeld ?_)
          show wpAnyH _ _ _ _ _ _ _ { tmps := _, defers := _ } _
          try simp only [Act.put, List.setIfInBounds_toArray, List.set_cons_zero, List.set_cons_succ]
          refine held_next 2 _ (by kernel_rfl) rfl rfl fun K hK => ?_
          go_simp
          have hs8 : wr.drew.heap.size = wr.heap.size := rfl
          obtain ⟨v8, hv8⟩ : ∃ v, v = (wr.alloc (.cells #[Value.slice a n c] 29)).drew := ⟨_, rfl⟩
          have HB8 : Hid (Below wr.heap.size wr v8) := Lib.hid (by rw [hv8]; exact below_drawn 1 ((Below.refl _ _).alloc (Nat.le_refl _) _))
          have HC8 : Hid (v8.heap[wr.heap.size]? = some (.cells #[Value.slice a n c] 29 (0, 0))) := Lib.hid (by rw [hv8]; exact (MapKept.heap_alloc wr _).1)
          have HZ8 : Hid (v8.heap.size = wr.heap.size + 1) := Lib.hid (by rw [hv8]; show (wr.alloc _).heap.size = _; simp)
          have hHeld8 : v8.rangeAt wq.heap.size 0 (Go.Lib.byteCells (digI F)) ∧ Below wr.heap.size wr v8 := ⟨fun j x hx => (HB8.out.cell (p := ⟨wq.heap.size, 0 + j, none⟩) HDlt.out).trans (HRg.out j x hx), HB8.out⟩
          have HP8 : Hid (Parts v8.heap.size (some ⟨wr.heap.size, 0, none⟩) 1 (fun _ => a) (fun _ => c) (fun _ => l) v8) := Lib.hid (by
            have hW8 := HG8.out.size
            have hz8 := HZ8.out
            refine parts_one (by rw [cell_of_heap HC8.out, HLn.out]; rfl) (by omega) (((HB.out.keep HG8.out).keep (HB8.out.mono hW8)).at (by omega) (by omega)) (by rw [HLn.out]; exact hc) (by rw [HLn.out]; exact hm))
          have HSum := Lib.hid (sums_any (some ⟨wr.heap.size, 0, none⟩) 1 1 (by decide) _ _ _ v8 (HT.out.below (HG8.out.trans (HB8.out.mono HG8.out.size))) HP8.out)
          rw [cat_one, HFin.out] at HSum
          unfold dig at HSum
          rw [← hv8]
          clear hv8 hHeld hs8
          refine hK _ _ hHeld8 (fun hHeld => ?_)
          clear hK K hHeld8
          show wpAnyH _ _ _ _ _ _ _ { tmps := _, defers := _ } _
          try simp only [Act.put, List.setIfInBounds_toArray, List.set_cons_zero, List.set_cons_succ]
          refine held_next 3 _ (by kernel_rfl) rfl rfl fun K hK => ?_
          go_simp
          refine HSum.out.mono ?_
          rintro e w9 ⟨rfl, hb9⟩
          show K _ _
          have hHeld9 : w9.rangeAt wq.heap.size 0 (Go.Lib.byteCells (digI F)) ∧ Below wr.heap.size wr w9 := by
            have hb9' : Below wr.heap.size v8 w9 := hb9.mono (by have := HZ8.out; omega)
            exact ⟨fun j x hx => (hb9'.cell (p := ⟨wq.heap.size, 0 + j, none⟩) HDlt.out).trans (hHeld.1 j x hx), HB8.out.trans hb9'⟩
          have HT9 : Hid (Tab w9) := Lib.hid (HT.out.below (HG8.out.trans (hHeld9.2.mono HG8.out.size)))
          clear hb9
          refine hK _ _ hHeld9 (fun hHeld => ?_)
          clear hK K hHeld9
          show wpAnyH _ _ _ _ _ _ _ { tmps := _, defers := _ } _
          try simp only [Act.put, List.setIfInBounds_toArray, List.set_cons_zero, List.set_cons_succ]
          first | (refine held_take 4 _ rfl (by kernel_rfl) (by kernel_rfl) (by kernel_rfl) (v := ?_) (fun _ _ _ h => h) ?_ rfl hHeld ?_; rotate_left; focus (intro w hS; go_simp; try with_reducible rfl)) | (refine held_skip 4 _ rfl (by kernel_rfl) (by kernel_rfl) (by kernel_rfl) (fun _ _ _ h => h) rfl hHeld ?_)
          show wpAnyH _ _ _ _ _ _ _ { tmps := _, defers := _ } _
          try simp only [Act.put, List.setIfInBounds_toArray, List.set_cons_zero, List.set_cons_succ]
          first | (refine held_take 5 _ rfl (by kernel_rfl) (by kernel_rfl) (by kernel_rfl) (v := ?_) (fun _ _ _ h => h) ?_ rfl hHeld ?_; rotate_left; focus (intro w hS; go_simp; try with_reducible rfl)) | (refine held_skip 5 _ rfl (by kernel_rfl) (by kernel_rfl) (by kernel_rfl) (fun _ _ _ h => h) rfl hHeld ?_)
          show wpAnyH _ _ _ _ _ _ _ { tmps := _, defers := _ } _
          try simp only [Act.put, List.setIfInBounds_toArray, List.set_cons_zero, List.set_cons_succ]
          refine held_next 6 _ (by kernel_rfl) rfl rfl fun K hK => ?_
          go_simp
          refine (HWorks.out _ HT9.out).mono ?_
          rintro e w10 ⟨rfl, hb10⟩
          show K _ _
          have hHeld10 : w10.rangeAt wq.heap.size 0 (Go.Lib.byteCells (digI F)) ∧ Below wr.heap.size wr w10 := by
            have hb' : Below wr.heap.size w9 w10 := hb10.mono hHeld.2.size
            exact ⟨fun j x hx => (hb'.cell (p := ⟨wq.heap.size, 0 + j, none⟩) HDlt.out).trans (hHeld.1 j x hx), hHeld.2.trans hb'⟩
          refine hK _ _ hHeld10 (fun hHeld => ?_)
          clear hK K hHeld10 hb10
          show wpAnyH _ _ _ _ _ _ _ { tmps := _, defers := _ } _
          try simp only [Act.put, List.setIfInBounds_toArray, List.set_cons_zero, List.set_cons_succ]
          first | (refine held_take 7 _ rfl (by kernel_rfl) (by kernel_rfl) (by kernel_rfl) (v := ?_) (fun _ _ _ h => h) ?_ rfl hHeld ?_; rotate_left; focus (intro w hS; go_simp; try with_reducible rfl)) | (refine held_skip 7 _ rfl (by kernel_rfl) (by kernel_rfl) (by kernel_rfl) (fun _ _ _ h => h) rfl hHeld ?_)
          show wpAnyH _ _ _ _ _ _ _ { tmps := _, defers := _ } _
          try simp only [Act.put, List.setIfInBounds_toArray, List.set_cons_zero, List.set_cons_succ]
          first | (refine held_take 8 _ rfl (by kernel_rfl) (by kernel_rfl) (by kernel_rfl) (v := ?_) (fun _ _ _ h => h) ?_ rfl hHeld ?_; rotate_left; focus (intro w hS; go_simp; try with_reducible rfl)) | (refine held_skip 8 _ rfl (by kernel_rfl) (by kernel_rfl) (by kernel_rfl) (fun _ _ _ h => h) rfl hHeld ?_)
          show wpAnyH _ _ _ _ _ _ _ { tmps := _, defers := _ } _
          try simp only [Act.put, List.setIfInBounds_toArray, List.set_cons_zero, List.set_cons_succ]
          refine wpAnyH_done (by kernel_rfl) ?_ _
          go_wp2_with fail
          go_ret
          exact ⟨rfl, HG8.out.trans (hHeld.2.mono HG8.out.size)⟩
end Go.Proofs.YtphgaemmbdogmaaDoor
