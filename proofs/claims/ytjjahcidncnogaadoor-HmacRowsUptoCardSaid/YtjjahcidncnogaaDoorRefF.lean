/- The contracts of the reference's First and Constants. -/
import Derived.Test.YtjjahcidncnogaaDoorRefP
import Derived.Test.YtjjahcidncnogaaDoorShaNew
namespace Go.Proofs.YtjjahcidncnogaaDoor
open Go.RowKit Go.Lib

theorem primesL_lt (i : Nat) : primesL.getD i 0 < 312 := by
  rw [List.getD_eq_getElem?_getD]
  rcases Nat.lt_or_ge i primesL.length with h | h
  · rw [List.getElem?_eq_getElem h]
    have : ∀ x ∈ primesL, x < 312 := by decide
    exact this _ (List.getElem_mem _)
  · rw [List.getElem?_eq_none h]; decide
/-- The first i roots, of m. -/
def rootsTo (three : Bool) (m i : Nat) : List Int := (primesL.take i).map (rootI three) ++ List.replicate (m - i) 0
theorem rootsTo_length (three : Bool) (m i : Nat) (hm : m ≤ 64) (hi : i ≤ m) : (rootsTo three m i).length = m := by
  have h : primesL.length = 64 := rfl
  unfold rootsTo
  rw [List.length_append, List.length_map, List.length_take, List.length_replicate, h]
  omega
theorem rootsTo_set (three : Bool) (m i : Nat) (hm : m ≤ 64) (hi : i < m) : (rootsTo three m i).set i (rootI three (primesL.getD i 0)) = rootsTo three m (i + 1) := by
  have h : primesL.length = 64 := rfl
  have hl : ((primesL.take i).map (rootI three)).length = i := by rw [List.length_map, List.length_take, h]; omega
  have hip : i < primesL.length := by omega
  unfold rootsTo
  have e : m - i = (m - (i + 1)) + 1 := by omega
  rw [List.set_append_right _ _ (by omega), hl, Nat.sub_self, e, List.replicate_succ, List.set_cons_zero, List.take_succ_eq_append_getElem hip, List.map_append, List.append_assoc, List.getD_eq_getElem?_getD, List.getElem?_eq_getElem hip]
  rfl
theorem rootsTo_k : rootsTo true 64 64 = kI := by rw [← roots_k]; rfl
theorem rootsTo_first : rootsTo false 8 8 = firstI := roots_first

set_option maxRecDepth 100000 in
set_option maxHeartbeats 8000000 in
theorem refConst_any (w : World) : Calls Tryd.prog 98 #[] w fun e w' => e = .returned (.agg (cells32 kI)) ∧ Below w.heap.size w w' := by
  obtain ⟨X, hX⟩ : ∃ X, cells32 kI = X := ⟨_, rfl⟩
  have HX := Lib.hid hX
  rw [hX]
  clear hX
  have HPrimes := Lib.hid (fun w => primes_any w)
  have HRoot := Lib.hid (fun p hp w => root_any p true hp w)
  obtain ⟨v0, hv0⟩ : ∃ v, v = (w.alloc (.cells (cells32 zeros64) 141)).alloc (.cells (cells32 zeros64) 141) := ⟨_, rfl⟩
  have HA0 : Hid (v0.heap[w.heap.size]? = some (.cells (cells32 zeros64) 141 (0, 0))) := Lib.hid (by
    rw [hv0, (MapKept.heap_alloc _ _).2 _ (by simp), (MapKept.heap_alloc _ _).1])
  have HB0 : Hid (v0.heap[w.heap.size + 1]? = some (.cells (cells32 zeros64) 141 (0, 0))) := Lib.hid (by
    rw [hv0]
    have h := (MapKept.heap_alloc (w.alloc (.cells (cells32 zeros64) 141)) (.cells (cells32 zeros64) 141)).1
    simp only [World.size_alloc] at h
    exact h)
  have HG0 : Hid (Below w.heap.size w v0) := Lib.hid (by rw [hv0]; exact ((Below.refl _ w).alloc (Nat.le_refl _) _).alloc (by simp) _)
  have HZ0 : Hid (v0.heap.size = w.heap.size + 1 + 1) := Lib.hid (by rw [hv0]; simp)
  have HV0 := Lib.hid hv0
  clear hv0
  have hsP : (Tryd.prog.info? 121).map (·.size) = some (cells64 primesL).size := by rw [cells64_size]; exact sizePrimes
  have HSP := Lib.hid hsP
  have H1P := Lib.hid (cells64_one primesL)
  have HOP : Hid ((cells64 zerosN).size = (cells64 primesL).size) := Lib.hid (by rw [cells64_size, cells64_size]; rfl)
  have HGet := Lib.hid (fun i (h : i < 64) => cells64_get primesL i (show i < primesL.length from h))
  have HLt := Lib.hid primesL_lt
  obtain ⟨PL, hPL⟩ : ∃ l, primesL = l := ⟨_, rfl⟩
  have HPL := Lib.hid hPL
  rw [hPL] at HPrimes HSP H1P HOP HGet HLt
  obtain ⟨XP, hXP⟩ : ∃ X, cells64 PL = X := ⟨_, rfl⟩
  rw [hXP] at HPrimes HSP H1P HOP HGet
  clear hsP hPL hXP
  go_enter Tryd.func98, Tryd.ntmps98
  go_wp2_with fail
  refine (HPrimes.out _).mono ?_
  rintro e w1 ⟨rfl, hb1'⟩
  have hb1 : Below v0.heap.size v0 w1 := by rw [HV0.out]; exact hb1'
  clear hb1'
  have z0 := HZ0.out
  have HA1 : Hid (w1.heap[w.heap.size]? = some (.cells (cells32 zeros64) 141 (0, 0))) := Lib.hid ((hb1.block _ (by omega)).trans HA0.out)
  have HB1 : Hid (w1.heap[w.heap.size + 1]? = some (.cells (cells32 zeros64) 141 (0, 0))) := Lib.hid ((hb1.block _ (by omega)).trans HB0.out)
  have HG1 : Hid (Below w.heap.size w w1) := Lib.hid (HG0.out.trans (hb1.mono (by omega)))
  have HZ1 : Hid (w.heap.size + 1 + 1 ≤ w1.heap.size) := Lib.hid (by have := hb1.size; omega)
  clear hb1 z0
  go_wp2_with (refine wpList_store_row rfl 121 (.tmp 2) (.tmp 4) rfl w1.heap.size XP rfl rfl 121 (cells64 zerosN) ?hg HSP.out ?hold H1P.out ?_)
  case hg => exact (MapKept.heap_alloc w1 _).1
  case hold => exact HOP.out
  rw [World.setRow_alloc_new]
  obtain ⟨v2, hv2⟩ : ∃ v, v = w1.alloc (.cells XP 121) := ⟨_, rfl⟩
  have z1 := HZ1.out
  have HA2 : Hid (v2.heap[w.heap.size]? = some (.cells (cells32 zeros64) 141 (0, 0))) := Lib.hid (by rw [hv2, (MapKept.heap_alloc _ _).2 _ (by omega)]; exact HA1.out)
  have HB2 : Hid (v2.heap[w.heap.size + 1]? = some (.cells (cells32 (rootsTo true 64 0)) 141 (0, 0))) := Lib.hid (by rw [hv2, (MapKept.heap_alloc _ _).2 _ (by omega)]; exact HB1.out)
  have HP2 : Hid (v2.heap[w1.heap.size]? = some (.cells XP 121 (0, 0))) := Lib.hid (by rw [hv2]; exact (MapKept.heap_alloc w1 _).1)
  have HG2 : Hid (Below w.heap.size w v2) := Lib.hid (by rw [hv2]; exact HG1.out.alloc HG1.out.size _)
  rw [← hv2]
  clear hv2 z1 HA1 HB1 HG1 HA0 HB0 HG0 HV0 HZ0
  obtain ⟨b, hb⟩ : ∃ b, b = w1.heap.size := ⟨_, rfl⟩
  have HBl : Hid (w.heap.size + 1 + 1 ≤ b) := Lib.hid (by rw [hb]; exact HZ1.out)
  rw [← hb] at HP2 ⊢
  clear hb HZ1
  have HStart : Hid (∃ i : Nat, Value.int .i64 0 = .int .i64 (i : Int) ∧ i ≤ 64 ∧ Hid (v2.heap[w.heap.size + 1]? = some (.cells (cells32 (rootsTo true 64 i)) 141 (0, 0))) ∧ Hid (v2.heap[w.heap.size]? = some (.cells (cells32 zeros64) 141 (0, 0))) ∧
    Hid (v2.heap[b]? = some (.cells XP 121 (0, 0))) ∧ Hid (Below w.heap.size w v2)) := Lib.hid ⟨0, rfl, by decide, HB2, HA2, HP2, HG2⟩
  clear HB2 HA2 HP2 HG2
  go_wp2_with fail
  go_loopw [3] (fun v wr => ∃ i : Nat, v = .int .i64 (i : Int) ∧ i ≤ 64 ∧ Hid (wr.heap[w.heap.size + 1]? = some (.cells (cells32 (rootsTo true 64 i)) 141 (0, 0))) ∧ Hid (wr.heap[w.heap.size]? = some (.cells (cells32 zeros64) 141 (0, 0))) ∧
    Hid (wr.heap[b]? = some (.cells XP 121 (0, 0))) ∧ Hid (Below w.heap.size w wr)) (fun v _ => 64 - (RowKit.intOf v).toNat)
  case atStart => exact HStart.out
  case round =>
    clear HStart
    obtain ⟨i, rfl, hi, hr, ha, hp, hg⟩ := hrel
    by_cases hlt : i < 64
    · have hd : decide ((i : Int) < 64) = true := decide_eq_true (by omega)
      have hti : (i : Int) < 64 := by omega
      have hti2 : (i : Int) < 64 := by omega
      have HG := Lib.hid (HGet.out i (by omega))
      have HPb := Lib.hid (show primesL.getD i 0 = PL.getD i 0 by rw [HPL.out])
      have HL := Lib.hid (HLt.out i)
      have HLen := Lib.hid (rootsTo_length true 64 i (by decide) hi)
      have HSet := Lib.hid (rootsTo_set true 64 i (by decide) hlt)
      rw [HPb.out] at HSet
      obtain ⟨p, hp'⟩ : ∃ p, PL.getD i 0 = p := ⟨_, rfl⟩
      rw [hp'] at HG HL HSet
      have c1 : wr.cell? ⟨b, i, none⟩ = some (.int .u64 (p : Int)) := by rw [cell_of_heap hp.out]; exact HG.out
      obtain ⟨y, hy⟩ : ∃ y, (rootsTo true 64 i).getD i 0 = y := ⟨_, rfl⟩
      have c2 : wr.cell? ⟨w.heap.size + 1, i, none⟩ = some (.int .u32 y) := by rw [cell_of_heap hr.out, cells32_get _ _ (by rw [HLen.out]; exact hlt), hy]
      have f2 : wr.frozen? ⟨w.heap.size + 1, i, none⟩ = false := frozen_of_heap hr.out _
      have HCall := Lib.hid (fun w => HRoot.out p (by have := HL.out; omega) w)
      obtain ⟨x, hx⟩ : ∃ x, rootI true p = x := ⟨_, rfl⟩
      rw [hx] at HCall HSet
      have HR2 : Hid ((wr.setCell ⟨w.heap.size + 1, i, none⟩ (.int .u32 x)).heap[w.heap.size + 1]? = some (.cells (cells32 (rootsTo true 64 (i + 1))) 141 (0, 0))) := Lib.hid (by
        rw [Go.Joins.block_setCell hr.out _, cells32_set, HSet.out])
      have HA2 : Hid ((wr.setCell ⟨w.heap.size + 1, i, none⟩ (.int .u32 x)).heap[w.heap.size]? = some (.cells (cells32 zeros64) 141 (0, 0))) := Lib.hid (by
        rw [Below.heap_setCell _ _ _ _ (by simp only; omega)]
        exact ha.out)
      have HP2 : Hid ((wr.setCell ⟨w.heap.size + 1, i, none⟩ (.int .u32 x)).heap[b]? = some (.cells XP 121 (0, 0))) := Lib.hid (by
        rw [Below.heap_setCell _ _ _ _ (by have := HBl.out; simp only; omega)]
        exact hp.out)
      have HG2 : Hid (Below w.heap.size w (wr.setCell ⟨w.heap.size + 1, i, none⟩ (.int .u32 x))) := Lib.hid (hg.out.setCell (by simp only; omega) _)
      clear hp' hy hx hr ha hp hg
      go_wp2_with (go_at_call 80; refine (HCall.out _).mono ?_; rintro e w' ⟨rfl, rfl⟩)
      go_roundw
      case rel => exact ⟨i + 1, by go_num, hlt, HR2, HA2, HP2, HG2⟩
      case measure => simp [RowKit.intOf]; omega
    · obtain rfl : i = 64 := by omega
      have HV1 : Hid (wr.heap[w.heap.size + 1]? = some (.cells X 141 (0, 0))) := Lib.hid (by rw [hr.out, ← HX.out]; rw [rootsTo_k])
      have hsX : (Tryd.prog.info? 141).map (·.size) = some X.size := by rw [← HX.out, cells32_size]; exact sizeWords
      have HSX := Lib.hid hsX
      have H1X : Hid (X.all (·.oneCell') = true) := Lib.hid (by rw [← HX.out]; exact cells32_one _)
      have HOX : Hid ((cells32 zeros64).size = X.size) := Lib.hid (by rw [← HX.out, cells32_size, cells32_size]; rfl)
      have HV : Hid ((wr.setRow w.heap.size X).heap[w.heap.size]? = some (.cells X 141 (0, 0))) := Lib.hid (setRow_heap wr _ _ _ _ _ ha.out)
      have HG5 : Hid (Below w.heap.size w (wr.setRow w.heap.size X)) := Lib.hid (hg.out.trans ⟨rfl, rfl, rfl, by simp, fun j hj => setRow_other wr _ j _ (by have := hg.out.size; omega)⟩)
      clear hsX hr hp hg hi hlt HX
      rw [show ((64 : Nat) : Int) = 64 from rfl]
      go_wp2_with (first
        | (refine wpList_load_row rfl 141 (.tmp 1) rfl (w.heap.size + 1) rfl 141 _ (0, 0) _ HV1.out Tryd.underlying141 rfl HSX.out ?_)
        | (refine wpList_store_row rfl 141 (.tmp 0) (.tmp 15) rfl w.heap.size X rfl rfl 141 _ ha.out HSX.out HOX.out H1X.out ?_))
      exact bodyPost_ret (results_cell_row rfl _ _ w.heap.size 141 X (0, 0) _ rfl HV.out Tryd.underlying141 rfl HSX.out) rfl ⟨rfl, HG5.out⟩

set_option maxRecDepth 100000 in
set_option maxHeartbeats 8000000 in
theorem refFirst_any (w : World) : Calls Tryd.prog 27 #[] w fun e w' => e = .returned (.agg (cells32 firstI)) ∧ Below w.heap.size w w' := by
  obtain ⟨X, hX⟩ : ∃ X, cells32 firstI = X := ⟨_, rfl⟩
  have HX := Lib.hid hX
  rw [hX]
  clear hX
  have HPrimes := Lib.hid (fun w => primes_any w)
  have HRoot := Lib.hid (fun p hp w => root_any p false hp w)
  obtain ⟨v0, hv0⟩ : ∃ v, v = (w.alloc (.cells (cells32 zeros8) 26)).alloc (.cells (cells32 zeros8) 26) := ⟨_, rfl⟩
  have HA0 : Hid (v0.heap[w.heap.size]? = some (.cells (cells32 zeros8) 26 (0, 0))) := Lib.hid (by
    rw [hv0, (MapKept.heap_alloc _ _).2 _ (by simp), (MapKept.heap_alloc _ _).1])
  have HB0 : Hid (v0.heap[w.heap.size + 1]? = some (.cells (cells32 zeros8) 26 (0, 0))) := Lib.hid (by
    rw [hv0]
    have h := (MapKept.heap_alloc (w.alloc (.cells (cells32 zeros8) 26)) (.cells (cells32 zeros8) 26)).1
    simp only [World.size_alloc] at h
    exact h)
  have HG0 : Hid (Below w.heap.size w v0) := Lib.hid (by rw [hv0]; exact ((Below.refl _ w).alloc (Nat.le_refl _) _).alloc (by simp) _)
  have HZ0 : Hid (v0.heap.size = w.heap.size + 1 + 1) := Lib.hid (by rw [hv0]; simp)
  have HV0 := Lib.hid hv0
  clear hv0
  have hsP : (Tryd.prog.info? 121).map (·.size) = some (cells64 primesL).size := by rw [cells64_size]; exact sizePrimes
  have HSP := Lib.hid hsP
  have H1P := Lib.hid (cells64_one primesL)
  have HOP : Hid ((cells64 zerosN).size = (cells64 primesL).size) := Lib.hid (by rw [cells64_size, cells64_size]; rfl)
  have HGet := Lib.hid (fun i (h : i < 64) => cells64_get primesL i (show i < primesL.length from h))
  have HLt := Lib.hid primesL_lt
  obtain ⟨PL, hPL⟩ : ∃ l, primesL = l := ⟨_, rfl⟩
  have HPL := Lib.hid hPL
  rw [hPL] at HPrimes HSP H1P HOP HGet HLt
  obtain ⟨XP, hXP⟩ : ∃ X, cells64 PL = X := ⟨_, rfl⟩
  rw [hXP] at HPrimes HSP H1P HOP HGet
  clear hsP hPL hXP
  go_enter Tryd.func27, Tryd.ntmps27
  go_wp2_with fail
  refine (HPrimes.out _).mono ?_
  rintro e w1 ⟨rfl, hb1'⟩
  have hb1 : Below v0.heap.size v0 w1 := by rw [HV0.out]; exact hb1'
  clear hb1'
  have z0 := HZ0.out
  have HA1 : Hid (w1.heap[w.heap.size]? = some (.cells (cells32 zeros8) 26 (0, 0))) := Lib.hid ((hb1.block _ (by omega)).trans HA0.out)
  have HB1 : Hid (w1.heap[w.heap.size + 1]? = some (.cells (cells32 zeros8) 26 (0, 0))) := Lib.hid ((hb1.block _ (by omega)).trans HB0.out)
  have HG1 : Hid (Below w.heap.size w w1) := Lib.hid (HG0.out.trans (hb1.mono (by omega)))
  have HZ1 : Hid (w.heap.size + 1 + 1 ≤ w1.heap.size) := Lib.hid (by have := hb1.size; omega)
  clear hb1 z0
  go_wp2_with (refine wpList_store_row rfl 121 (.tmp 2) (.tmp 4) rfl w1.heap.size XP rfl rfl 121 (cells64 zerosN) ?hg HSP.out ?hold H1P.out ?_)
  case hg => exact (MapKept.heap_alloc w1 _).1
  case hold => exact HOP.out
  rw [World.setRow_alloc_new]
  obtain ⟨v2, hv2⟩ : ∃ v, v = w1.alloc (.cells XP 121) := ⟨_, rfl⟩
  have z1 := HZ1.out
  have HA2 : Hid (v2.heap[w.heap.size]? = some (.cells (cells32 zeros8) 26 (0, 0))) := Lib.hid (by rw [hv2, (MapKept.heap_alloc _ _).2 _ (by omega)]; exact HA1.out)
  have HB2 : Hid (v2.heap[w.heap.size + 1]? = some (.cells (cells32 (rootsTo false 8 0)) 26 (0, 0))) := Lib.hid (by rw [hv2, (MapKept.heap_alloc _ _).2 _ (by omega)]; exact HB1.out)
  have HP2 : Hid (v2.heap[w1.heap.size]? = some (.cells XP 121 (0, 0))) := Lib.hid (by rw [hv2]; exact (MapKept.heap_alloc w1 _).1)
  have HG2 : Hid (Below w.heap.size w v2) := Lib.hid (by rw [hv2]; exact HG1.out.alloc HG1.out.size _)
  rw [← hv2]
  clear hv2 z1 HA1 HB1 HG1 HA0 HB0 HG0 HV0 HZ0
  obtain ⟨b, hb⟩ : ∃ b, b = w1.heap.size := ⟨_, rfl⟩
  have HBl : Hid (w.heap.size + 1 + 1 ≤ b) := Lib.hid (by rw [hb]; exact HZ1.out)
  rw [← hb] at HP2 ⊢
  clear hb HZ1
  have HStart : Hid (∃ i : Nat, Value.int .i64 0 = .int .i64 (i : Int) ∧ i ≤ 8 ∧ Hid (v2.heap[w.heap.size + 1]? = some (.cells (cells32 (rootsTo false 8 i)) 26 (0, 0))) ∧ Hid (v2.heap[w.heap.size]? = some (.cells (cells32 zeros8) 26 (0, 0))) ∧
    Hid (v2.heap[b]? = some (.cells XP 121 (0, 0))) ∧ Hid (Below w.heap.size w v2)) := Lib.hid ⟨0, rfl, by decide, HB2, HA2, HP2, HG2⟩
  clear HB2 HA2 HP2 HG2
  go_wp2_with fail
  go_loopw [3] (fun v wr => ∃ i : Nat, v = .int .i64 (i : Int) ∧ i ≤ 8 ∧ Hid (wr.heap[w.heap.size + 1]? = some (.cells (cells32 (rootsTo false 8 i)) 26 (0, 0))) ∧ Hid (wr.heap[w.heap.size]? = some (.cells (cells32 zeros8) 26 (0, 0))) ∧
    Hid (wr.heap[b]? = some (.cells XP 121 (0, 0))) ∧ Hid (Below w.heap.size w wr)) (fun v _ => 8 - (RowKit.intOf v).toNat)
  case atStart => exact HStart.out
  case round =>
    clear HStart
    obtain ⟨i, rfl, hi, hr, ha, hp, hg⟩ := hrel
    by_cases hlt : i < 8
    · have hd : decide ((i : Int) < 8) = true := decide_eq_true (by omega)
      have hti : (i : Int) < 8 := by omega
      have hti2 : (i : Int) < 64 := by omega
      have HG := Lib.hid (HGet.out i (by omega))
      have HPb := Lib.hid (show primesL.getD i 0 = PL.getD i 0 by rw [HPL.out])
      have HL := Lib.hid (HLt.out i)
      have HLen := Lib.hid (rootsTo_length false 8 i (by decide) hi)
      have HSet := Lib.hid (rootsTo_set false 8 i (by decide) hlt)
      rw [HPb.out] at HSet
      obtain ⟨p, hp'⟩ : ∃ p, PL.getD i 0 = p := ⟨_, rfl⟩
      rw [hp'] at HG HL HSet
      have c1 : wr.cell? ⟨b, i, none⟩ = some (.int .u64 (p : Int)) := by rw [cell_of_heap hp.out]; exact HG.out
      obtain ⟨y, hy⟩ : ∃ y, (rootsTo false 8 i).getD i 0 = y := ⟨_, rfl⟩
      have c2 : wr.cell? ⟨w.heap.size + 1, i, none⟩ = some (.int .u32 y) := by rw [cell_of_heap hr.out, cells32_get _ _ (by rw [HLen.out]; exact hlt), hy]
      have f2 : wr.frozen? ⟨w.heap.size + 1, i, none⟩ = false := frozen_of_heap hr.out _
      have HCall := Lib.hid (fun w => HRoot.out p (by have := HL.out; omega) w)
      obtain ⟨x, hx⟩ : ∃ x, rootI false p = x := ⟨_, rfl⟩
      rw [hx] at HCall HSet
      have HR2 : Hid ((wr.setCell ⟨w.heap.size + 1, i, none⟩ (.int .u32 x)).heap[w.heap.size + 1]? = some (.cells (cells32 (rootsTo false 8 (i + 1))) 26 (0, 0))) := Lib.hid (by
        rw [Go.Joins.block_setCell hr.out _, cells32_set, HSet.out])
      have HA2 : Hid ((wr.setCell ⟨w.heap.size + 1, i, none⟩ (.int .u32 x)).heap[w.heap.size]? = some (.cells (cells32 zeros8) 26 (0, 0))) := Lib.hid (by
        rw [Below.heap_setCell _ _ _ _ (by simp only; omega)]
        exact ha.out)
      have HP2 : Hid ((wr.setCell ⟨w.heap.size + 1, i, none⟩ (.int .u32 x)).heap[b]? = some (.cells XP 121 (0, 0))) := Lib.hid (by
        rw [Below.heap_setCell _ _ _ _ (by have := HBl.out; simp only; omega)]
        exact hp.out)
      have HG2 : Hid (Below w.heap.size w (wr.setCell ⟨w.heap.size + 1, i, none⟩ (.int .u32 x))) := Lib.hid (hg.out.setCell (by simp only; omega) _)
      clear hp' hy hx hr ha hp hg
      go_wp2_with (go_at_call 80; refine (HCall.out _).mono ?_; rintro e w' ⟨rfl, rfl⟩)
      go_roundw
      case rel => exact ⟨i + 1, by go_num, hlt, HR2, HA2, HP2, HG2⟩
      case measure => simp [RowKit.intOf]; omega
    · obtain rfl : i = 8 := by omega
      have HV1 : Hid (wr.heap[w.heap.size + 1]? = some (.cells X 26 (0, 0))) := Lib.hid (by rw [hr.out, ← HX.out]; rw [rootsTo_first])
      have hsX : (Tryd.prog.info? 26).map (·.size) = some X.size := by rw [← HX.out, cells32_size]; exact sizeState
      have HSX := Lib.hid hsX
      have H1X : Hid (X.all (·.oneCell') = true) := Lib.hid (by rw [← HX.out]; exact cells32_one _)
      have HOX : Hid ((cells32 zeros8).size = X.size) := Lib.hid (by rw [← HX.out, cells32_size, cells32_size]; rfl)
      have HV : Hid ((wr.setRow w.heap.size X).heap[w.heap.size]? = some (.cells X 26 (0, 0))) := Lib.hid (setRow_heap wr _ _ _ _ _ ha.out)
      have HG5 : Hid (Below w.heap.size w (wr.setRow w.heap.size X)) := Lib.hid (hg.out.trans ⟨rfl, rfl, rfl, by simp, fun j hj => setRow_other wr _ j _ (by have := hg.out.size; omega)⟩)
      clear hsX hr hp hg hi hlt HX
      rw [show ((8 : Nat) : Int) = 8 from rfl]
      go_wp2_with (first
        | (refine wpList_load_row rfl 26 (.tmp 1) rfl (w.heap.size + 1) rfl 26 _ (0, 0) _ HV1.out Tryd.underlying26 rfl HSX.out ?_)
        | (refine wpList_store_row rfl 26 (.tmp 0) (.tmp 15) rfl w.heap.size X rfl rfl 26 _ ha.out HSX.out HOX.out H1X.out ?_))
      exact bodyPost_ret (results_cell_row rfl _ _ w.heap.size 26 X (0, 0) _ rfl HV.out Tryd.underlying26 rfl HSX.out) rfl ⟨rfl, HG5.out⟩
end Go.Proofs.YtjjahcidncnogaaDoor
