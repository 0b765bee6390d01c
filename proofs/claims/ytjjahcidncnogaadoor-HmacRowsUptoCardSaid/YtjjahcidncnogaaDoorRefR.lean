/- The contract of the reference's Round: it is that of sha's. -/
import Derived.Test.YtjjahcidncnogaaDoorRefF
import Derived.Test.YtjjahcidncnogaaDoorHeld
namespace Go.Proofs.YtjjahcidncnogaaDoor
open Go.RowKit Go.Lib

set_option maxRecDepth 100000 in
set_option maxHeartbeats 4000000 in
theorem refR_any (x : Int) (n : Nat) (hn : n = 6 ∨ n = 11 ∨ n = 25 ∨ n = 2 ∨ n = 13 ∨ n = 22 ∨ n = 7 ∨ n = 18 ∨ n = 17 ∨ n = 19) (w : World) :
    Calls Tryd.prog 99 #[.int .u32 x, .int .i64 (n : Int)] w fun e w' => e = .returned (.int .u32 (turnI x n)) ∧ ∃ m, w' = w.drewN m := by
  rcases hn with rfl | rfl | rfl | rfl | rfl | rfl | rfl | rfl | rfl | rfl
  all_goals
    go_enter Tryd.func99, Tryd.ntmps99
    go_wp2_with fail
    go_quiet (fail)
    go_wp2_with fail
    go_ret
    exact ⟨rfl, _, rfl⟩
theorem refR_int (x k : Int) (hk : k = 6 ∨ k = 11 ∨ k = 25 ∨ k = 2 ∨ k = 13 ∨ k = 22 ∨ k = 7 ∨ k = 18 ∨ k = 17 ∨ k = 19) (w : World) :
    Calls Tryd.prog 99 #[.int .u32 x, .int .i64 k] w fun e w' => e = .returned (.int .u32 (turnI x k.toNat)) ∧ ∃ m, w' = w.drewN m := by
  have h := refR_any x k.toNat (by omega) w
  have e : ((k.toNat : Nat) : Int) = k := by omega
  rw [e] at h
  exact h

theorem foldC_eight (a b c d e f g h : Int) (S : List Int) (hS : S.length = 8) : foldC [a, b, c, d, e, f, g, h] 0 S =
    [w32 (S.getD 0 0 + a), w32 (S.getD 1 0 + b), w32 (S.getD 2 0 + c), w32 (S.getD 3 0 + d), w32 (S.getD 4 0 + e), w32 (S.getD 5 0 + f), w32 (S.getD 6 0 + g), w32 (S.getD 7 0 + h)] := by
  match S, hS with
  | [_, _, _, _, _, _, _, _], _ => rfl
theorem other_cell (w : World) (b i j : Nat) (z : Value) (h : i ≠ j) : (w.setCell ⟨b, i, none⟩ z).cell? ⟨b, j, none⟩ = w.cell? ⟨b, j, none⟩ :=
  World.cell?_setCell_other w _ _ _ (by intro h'; simp only [Addr.mk.injEq] at h'; exact h h'.2.1)
/-- How the memory of the reference's Round stands. -/
structure RF (w : World) (b : Nat) (S B L : List Int) (v : World) : Prop where
  s : v.heap[w.heap.size]? = some (.cells (cells32 S) 26 (0, 0))
  bl : v.heap[w.heap.size + 1]? = some (.cells (cells8 B) 112 (0, 0))
  r : v.heap[w.heap.size + 1 + 1]? = some (.cells (cells32 zeros8) 26 (0, 0))
  k : v.heap[b]? = some (.cells (cells32 kI) 141 (0, 0))
  l : v.heap[b + 1]? = some (.cells (cells32 L) 141 (0, 0))
  far : w.heap.size + 1 + 1 + 1 ≤ b
  below : Below w.heap.size w v
theorem RF.drewN {w v : World} {b : Nat} {S B L : List Int} (h : RF w b S B L v) (n : Nat) : RF w b S B L (v.drewN n) := ⟨h.s, h.bl, h.r, h.k, h.l, h.far, below_drawn n h.below⟩
theorem RF.drew {w v : World} {b : Nat} {S B L : List Int} (h : RF w b S B L v) : RF w b S B L v.drew := h.drewN 1
theorem RF.set {w v : World} {b : Nat} {S B L : List Int} (h : RF w b S B L v) (i : Nat) (x : Int) : RF w b S B (L.set i x) (v.setCell ⟨b + 1, i, none⟩ (.int .u32 x)) := by
  have := h.far
  refine ⟨?_, ?_, ?_, ?_, ?_, h.far, h.below.setCell (by simp only; omega) _⟩
  · rw [Below.heap_setCell _ _ _ _ (by simp only; omega)]; exact h.s
  · rw [Below.heap_setCell _ _ _ _ (by simp only; omega)]; exact h.bl
  · rw [Below.heap_setCell _ _ _ _ (by simp only; omega)]; exact h.r
  · rw [Below.heap_setCell _ _ _ _ (by simp only; omega)]; exact h.k
  · rw [Go.Joins.block_setCell h.l _, cells32_set]

set_option maxRecDepth 100000 in
set_option maxHeartbeats 8000000 in
theorem refRound_any (S B : List Int) (hS : S.length = 8) (hB : B.length = 64) (h8 : ∀ x ∈ B, 0 ≤ x ∧ x < 256) (w : World) :
    Calls Tryd.prog 91 #[.agg (cells32 S), .agg (cells8 B)] w fun e w' => e = .returned (.agg (cells32 (roundI S B))) ∧ Below w.heap.size w w' := by
  have HConst := Lib.hid (fun w => refConst_any w)
  have hsK : (Tryd.prog.info? 141).map (·.size) = some (cells32 kI).size := by rw [cells32_size]; exact sizeWords
  have HSK := Lib.hid hsK
  have H1K := Lib.hid (cells32_one kI)
  have HOK : Hid ((cells32 zeros64).size = (cells32 kI).size) := Lib.hid (by rw [cells32_size, cells32_size]; rfl)
  have HR : Hid (roundI S B = foldC (listR (foldR kI (spreadI B) (r8 S))) 0 S) := Lib.hid rfl
  have HRest := Lib.hid (restW_start B hB h8)
  obtain ⟨F, hF⟩ : ∃ F, roundI S B = F := ⟨_, rfl⟩
  obtain ⟨W, hW⟩ : ∃ W, spreadI B = W := ⟨_, rfl⟩
  obtain ⟨KI, hK⟩ : ∃ K, kI = K := ⟨_, rfl⟩
  obtain ⟨XK, hXK⟩ : ∃ X, cells32 kI = X := ⟨_, rfl⟩
  rw [hF] at HR ⊢
  rw [hW] at HR HRest
  rw [hXK] at HConst HSK H1K HOK
  have HKI := Lib.hid hK
  have HXK := Lib.hid hXK
  have HWl : Hid (W.length = 64) := Lib.hid (by rw [← hW]; exact spreadI_length B)
  have HLS := Lib.hid hS
  have HLB := Lib.hid hB
  have H8 := Lib.hid h8
  clear hF hW hK hXK hsK hS hB h8
  obtain ⟨v0, hv0⟩ : ∃ v, v = ((w.alloc (.cells (cells32 S) 26)).alloc (.cells (cells8 B) 112)).alloc (.cells (cells32 zeros8) 26) := ⟨_, rfl⟩
  have HV0 := Lib.hid hv0
  have HA0 : Hid (v0.heap[w.heap.size]? = some (.cells (cells32 S) 26 (0, 0))) := Lib.hid (by
    rw [hv0, (MapKept.heap_alloc _ _).2 _ (by simp; omega), (MapKept.heap_alloc _ _).2 _ (by simp), (MapKept.heap_alloc _ _).1])
  have HB0 : Hid (v0.heap[w.heap.size + 1]? = some (.cells (cells8 B) 112 (0, 0))) := Lib.hid (by
    rw [hv0, (MapKept.heap_alloc _ _).2 _ (by simp)]
    have h := (MapKept.heap_alloc (w.alloc (.cells (cells32 S) 26)) (.cells (cells8 B) 112)).1
    simp only [World.size_alloc] at h
    exact h)
  have HC0 : Hid (v0.heap[w.heap.size + 1 + 1]? = some (.cells (cells32 zeros8) 26 (0, 0))) := Lib.hid (by
    rw [hv0]
    have h := (MapKept.heap_alloc ((w.alloc (.cells (cells32 S) 26)).alloc (.cells (cells8 B) 112)) (.cells (cells32 zeros8) 26)).1
    simp only [World.size_alloc] at h
    exact h)
  have HG0 : Hid (Below w.heap.size w v0) := Lib.hid (by rw [hv0]; exact (((Below.refl _ w).alloc (Nat.le_refl _) _).alloc (by simp) _).alloc (by simp; omega) _)
  have HZ0 : Hid (v0.heap.size = w.heap.size + 1 + 1 + 1) := Lib.hid (by rw [hv0]; simp)
  clear hv0
  go_enter Tryd.func91, Tryd.ntmps91
  go_wp2_with fail
  refine (HConst.out _).mono ?_
  rintro e w1 ⟨rfl, hb1'⟩
  have hb1 : Below v0.heap.size v0 w1 := by rw [HV0.out]; exact hb1'
  clear hb1'
  have z0 := HZ0.out
  have HA1 : Hid (w1.heap[w.heap.size]? = some (.cells (cells32 S) 26 (0, 0))) := Lib.hid ((hb1.block _ (by omega)).trans HA0.out)
  have HB1 : Hid (w1.heap[w.heap.size + 1]? = some (.cells (cells8 B) 112 (0, 0))) := Lib.hid ((hb1.block _ (by omega)).trans HB0.out)
  have HC1 : Hid (w1.heap[w.heap.size + 1 + 1]? = some (.cells (cells32 zeros8) 26 (0, 0))) := Lib.hid ((hb1.block _ (by omega)).trans HC0.out)
  have HG1 : Hid (Below w.heap.size w w1) := Lib.hid (HG0.out.trans (hb1.mono (by omega)))
  have HZ1 : Hid (w.heap.size + 1 + 1 + 1 ≤ w1.heap.size) := Lib.hid (by have := hb1.size; omega)
  clear hb1 z0 HV0 HA0 HB0 HC0 HG0 HZ0
  go_wp2_with (refine wpList_store_row rfl 141 (.tmp 5) (.tmp 21) rfl w1.heap.size XK rfl rfl 141 (cells32 zeros64) ?hg HSK.out ?hold H1K.out ?_)
  case hg => exact (MapKept.heap_alloc w1 _).1
  case hold => exact HOK.out
  rw [World.setRow_alloc_new]
  obtain ⟨v2, hv2⟩ : ∃ v, v = (w1.alloc (.cells XK 141)) := ⟨_, rfl⟩
  rw [← hv2]
  have HZ2 : Hid (v2.heap.size = w1.heap.size + 1) := Lib.hid (by rw [hv2]; simp)
  have HV2 := Lib.hid hv2
  clear hv2
  obtain ⟨v3, hv3⟩ : ∃ v, v = (v2.alloc (.cells (cells32 zeros64) 141)) := ⟨_, rfl⟩
  have HRF : Hid (RF w w1.heap.size S B zeros64 v3) := Lib.hid (by
    have z1 := HZ1.out
    have z2 := HZ2.out
    refine ⟨?_, ?_, ?_, ?_, ?_, z1, ?_⟩
    · rw [hv3, (MapKept.heap_alloc _ _).2 _ (by omega), HV2.out, (MapKept.heap_alloc _ _).2 _ (by omega)]; exact HA1.out
    · rw [hv3, (MapKept.heap_alloc _ _).2 _ (by omega), HV2.out, (MapKept.heap_alloc _ _).2 _ (by omega)]; exact HB1.out
    · rw [hv3, (MapKept.heap_alloc _ _).2 _ (by omega), HV2.out, (MapKept.heap_alloc _ _).2 _ (by omega)]; exact HC1.out
    · rw [hv3, (MapKept.heap_alloc _ _).2 _ (by omega), HV2.out, HXK.out]; exact (MapKept.heap_alloc w1 _).1
    · rw [hv3, ← z2]; exact (MapKept.heap_alloc v2 _).1
    · rw [hv3, HV2.out]; exact (HG1.out.alloc HG1.out.size _).alloc (by have := HG1.out.size; simp; omega) _)
  go_wp2_with fail
  generalize hx : v2.alloc _ = vx
  obtain rfl : v3 = vx := by rw [← hx, hv3]; rfl
  try rw [HZ2.out]
  clear hx hv3 HV2 HA1 HB1 HC1 HG1 HSK H1K HOK HXK
  obtain ⟨b, hb⟩ : ∃ b, b = w1.heap.size := ⟨_, rfl⟩
  rw [← hb] at HRF ⊢
  clear hb HZ1 HZ2
  have HStart : Hid (∃ (t : Nat) (L : List Int), Value.int .i64 0 = .int .i64 (t : Int) ∧ t ≤ 64 ∧ Hid (restW B t L = W) ∧ Hid (L.length = 64) ∧ Hid (Is32 L) ∧ Hid (RF w b S B L v3)) := Lib.hid
    ⟨0, zeros64, rfl, by decide, Lib.hid HRest.out, Lib.hid rfl, Lib.hid (fun x hx => by have : x = 0 := by unfold zeros64 at hx; exact List.eq_of_mem_replicate hx
                                                                                         omega), HRF⟩
  clear HRF HRest
  go_loopw [7] (fun v wr => ∃ (t : Nat) (L : List Int), v = .int .i64 (t : Int) ∧ t ≤ 64 ∧ Hid (restW B t L = W) ∧ Hid (L.length = 64) ∧ Hid (Is32 L) ∧ Hid (RF w b S B L wr)) (fun v _ => 64 - (RowKit.intOf v).toNat)
  case atStart => exact HStart.out
  case round =>
    clear HStart
    obtain ⟨t, L, rfl, ht, hk, hl, h32, hf⟩ := hrel
    have f1 : wr.frozen? ⟨b + 1, t, none⟩ = false := frozen_of_heap hf.out.l _
    by_cases hlt : t < 64
    · have hd : decide ((t : Int) < 64) = true := decide_eq_true (by omega)
      have hti : (t : Int) < 64 := by omega
      obtain ⟨y0, hy0⟩ : ∃ y, L.getD t 0 = y := ⟨_, rfl⟩
      have d0 : wr.cell? ⟨b + 1, t, none⟩ = some (.int .u32 y0) := by rw [cell_of_heap hf.out.l, cells32_get L t (by rw [hl.out]; exact hlt), hy0]
      by_cases hlow : t < 16
      · have hd2 : decide ((t : Int) < 16) = true := decide_eq_true (by omega)
        have hti2 : (t : Int) < 16 := by omega
        obtain ⟨u, hu⟩ : ∃ u, 4 * t = u := ⟨_, rfl⟩
        have hu4 : (4 : Int) * (t : Int) = (u : Int) := by omega
        have hul : u < 61 := by omega
        have cellB : ∀ j, j < 64 → wr.cell? ⟨w.heap.size + 1, j, none⟩ = some (.int .u8 (B.getD j 0)) ∧ 0 ≤ B.getD j 0 ∧ B.getD j 0 < 256 := fun j hj => by
          have hjB : j < B.length := by rw [HLB.out]; exact hj
          rw [cell_of_heap hf.out.bl, cells8_get B j hjB, List.getD_eq_getElem?_getD, List.getElem?_eq_getElem hjB]
          exact ⟨rfl, H8.out _ (List.getElem_mem _)⟩
        obtain ⟨x0, hx0⟩ : ∃ x, B.getD u 0 = x := ⟨_, rfl⟩
        obtain ⟨x1, hx1⟩ : ∃ x, B.getD (u + 1) 0 = x := ⟨_, rfl⟩
        obtain ⟨x2, hx2⟩ : ∃ x, B.getD (u + 2) 0 = x := ⟨_, rfl⟩
        obtain ⟨x3, hx3⟩ : ∃ x, B.getD (u + 3) 0 = x := ⟨_, rfl⟩
        obtain ⟨c0, a0, b0⟩ := cellB u (by omega)
        obtain ⟨c1, a1, b1⟩ := cellB (u + 1) (by omega)
        obtain ⟨c2, a2, b2⟩ := cellB (u + 2) (by omega)
        obtain ⟨c3, a3, b3⟩ := cellB (u + 3) (by omega)
        rw [hx0] at c0 a0 b0
        rw [hx1] at c1 a1 b1
        rw [hx2] at c2 a2 b2
        rw [hx3] at c3 a3 b3
        have q0 : IntKind.u32.wrap x0 = x0 := by rw [IntKind.wrap_u32]; omega
        have q1 : IntKind.u32.wrap x1 = x1 := by rw [IntKind.wrap_u32]; omega
        have q2 : IntKind.u32.wrap x2 = x2 := by rw [IntKind.wrap_u32]; omega
        have q3 : IntKind.u32.wrap x3 = x3 := by rw [IntKind.wrap_u32]; omega
        have HWord : Hid (bits .or .u32 (bits .or .u32 (bits .or .u32 (w32 (x0 * 16777216)) (w32 (x1 * 65536))) (w32 (x2 * 256))) x3 = wordI B t) := Lib.hid (by
          rw [or4 x0 x1 x2 x3 a0 b0 a1 b1 a2 b2 a3 b3]
          unfold wordI
          rw [hu, hx0, hx1, hx2, hx3])
        obtain ⟨z, hz⟩ : ∃ z, wordI B t = z := ⟨_, rfl⟩
        rw [hz] at HWord
        obtain ⟨s0, hs0⟩ : ∃ s, w32 (x0 * 16777216) = s := ⟨_, rfl⟩
        obtain ⟨s1, hs1⟩ : ∃ s, w32 (x1 * 65536) = s := ⟨_, rfl⟩
        obtain ⟨s2, hs2⟩ : ∃ s, w32 (x2 * 256) = s := ⟨_, rfl⟩
        have p0 : IntKind.u32.wrap (x0 * 16777216) = s0 := by rw [IntKind.wrap_u32]; exact hs0
        have p1 : IntKind.u32.wrap (x1 * 65536) = s1 := by rw [IntKind.wrap_u32]; exact hs1
        have p2 : IntKind.u32.wrap (x2 * 256) = s2 := by rw [IntKind.wrap_u32]; exact hs2
        rw [hs0, hs1, hs2] at HWord
        have hw := HWord.out
        have HZ := Lib.hid hz
        have g0 : (0 : Int) ≤ (u : Int) := by omega
        have g1 : (0 : Int) ≤ (u : Int) + 1 := by omega
        have g2 : (0 : Int) ≤ (u : Int) + 2 := by omega
        have g3 : (0 : Int) ≤ (u : Int) + 3 := by omega
        have l0 : (u : Int) < 64 := by omega
        have l1 : (u : Int) + 1 < 64 := by omega
        have l2 : (u : Int) + 2 < 64 := by omega
        have l3 : (u : Int) + 3 < 64 := by omega
        have w0 : IntKind.i64.wrap (u : Int) = (u : Int) := by rw [IntKind.wrap_i64]; omega
        have w1 : IntKind.i64.wrap ((u : Int) + 1) = (u : Int) + 1 := by rw [IntKind.wrap_i64]; omega
        have w2 : IntKind.i64.wrap ((u : Int) + 2) = (u : Int) + 2 := by rw [IntKind.wrap_i64]; omega
        have w3 : IntKind.i64.wrap ((u : Int) + 3) = (u : Int) + 3 := by rw [IntKind.wrap_i64]; omega
        have t1 : ((u : Int) + 1).toNat = u + 1 := by omega
        have t2 : ((u : Int) + 2).toNat = u + 2 := by omega
        have t3 : ((u : Int) + 3).toNat = u + 3 := by omega
        have HSt := Lib.hid (restW_low B t hlow L)
        have H32 := Lib.hid (wordI_range B t H8.out)
        rw [hz] at HSt H32
        have HK2 : Hid (restW B (t + 1) (L.set t z) = W) := Lib.hid (by rw [← HSt.out]; exact hk.out)
        have HL2 : Hid ((L.set t z).length = 64) := Lib.hid (by rw [List.length_set]; exact hl.out)
        have HI2 : Hid (Is32 (L.set t z)) := Lib.hid (is32_set h32.out _ _ H32.out)
        have HF2 : Hid (RF w b S B (L.set t z) (wr.drew.setCell ⟨b + 1, t, none⟩ (.int .u32 z))) := Lib.hid (hf.out.drew.set t z)
        clear cellB hx0 hx1 hx2 hx3 hu hy0 hs0 hs1 hs2 hz hk hl h32 hf HSt H32
        go_wp2_with fail
        refine region_tail 31 (by kernel_rfl) (by kernel_rfl) ?_
        simp only [List.take_succ_cons, List.take_zero, List.drop_succ_cons, List.drop_zero]
        repeat (first | still_step)
        refine wpStill_nil ?_
        go_wp2_with fail
        go_roundw
        case rel => exact ⟨t + 1, _, by go_num, hlt, HK2, HL2, HI2, HF2⟩
        case measure => simp [RowKit.intOf]; omega
      · have hd2 : decide ((t : Int) < 16) = false := decide_eq_false (by omega)
        have hti2 : ¬ (t : Int) < 16 := by omega
        obtain ⟨a, rfl⟩ : ∃ a, t = a + 16 := ⟨t - 16, by omega⟩
        have cell : ∀ j, j < 64 → wr.cell? ⟨b + 1, j, none⟩ = some (.int .u32 (L.getD j 0)) := fun j hj => by rw [cell_of_heap hf.out.l]; exact cells32_get L _ (by rw [hl.out]; exact hj)
        have d1 := cell (a + 1) (by omega)
        have d2 := cell (a + 14) (by omega)
        have d3 := cell a (by omega)
        have d4 := cell (a + 9) (by omega)
        have hd3 : decide ((a : Int) + 16 < 64) = true := decide_eq_true (by omega)
        have hd4 : decide ((a : Int) + 16 < 16) = false := decide_eq_false (by omega)
        have r1 := is32_get h32.out (a + 1)
        have r2 := is32_get h32.out (a + 14)
        obtain ⟨y1, hy1⟩ : ∃ y, L.getD (a + 1) 0 = y := ⟨_, rfl⟩
        obtain ⟨y2, hy2⟩ : ∃ y, L.getD (a + 14) 0 = y := ⟨_, rfl⟩
        obtain ⟨y3, hy3⟩ : ∃ y, L.getD a 0 = y := ⟨_, rfl⟩
        obtain ⟨y4, hy4⟩ : ∃ y, L.getD (a + 9) 0 = y := ⟨_, rfl⟩
        have HY := Lib.hid (And.intro hy1 (And.intro hy2 (And.intro hy3 hy4)))
        rw [hy1] at d1 r1
        rw [hy2] at d2 r2
        rw [hy3] at d3
        rw [hy4] at d4
        have x1 : ((a + 16 : Nat) : Int) - 15 = ((a + 1 : Nat) : Int) := by omega
        have x2 : ((a + 16 : Nat) : Int) - 2 = ((a + 14 : Nat) : Int) := by omega
        have x3 : ((a + 16 : Nat) : Int) - 16 = ((a : Nat) : Int) := by omega
        have x4 : ((a + 16 : Nat) : Int) - 7 = ((a + 9 : Nat) : Int) := by omega
        clear cell hy1 hy2 hy3 hy4 hy0
        go_wp2_with fail
        go_quiet (fail)
        go_wp2_with fail
        have HR7 : Hid (∀ w, Calls Tryd.prog 99 #[.int .u32 y1, .int .i64 7] w fun e w' => e = .returned (.int .u32 (turnI y1 7)) ∧ ∃ m, w' = w.drewN m) := Lib.hid (fun w => refR_int y1 7 (by decide) w)
        have HR18 : Hid (∀ w, Calls Tryd.prog 99 #[.int .u32 y1, .int .i64 18] w fun e w' => e = .returned (.int .u32 (turnI y1 18)) ∧ ∃ m, w' = w.drewN m) := Lib.hid (fun w => refR_int y1 18 (by decide) w)
        have HR17 : Hid (∀ w, Calls Tryd.prog 99 #[.int .u32 y2, .int .i64 17] w fun e w' => e = .returned (.int .u32 (turnI y2 17)) ∧ ∃ m, w' = w.drewN m) := Lib.hid (fun w => refR_int y2 17 (by decide) w)
        have HR19 : Hid (∀ w, Calls Tryd.prog 99 #[.int .u32 y2, .int .i64 19] w fun e w' => e = .returned (.int .u32 (turnI y2 19)) ∧ ∃ m, w' = w.drewN m) := Lib.hid (fun w => refR_int y2 19 (by decide) w)
        obtain ⟨SS, hSS⟩ : ∃ SS : World → Prop, SS = fun w' => w'.cell? ⟨b + 1, a, none⟩ = some (.int .u32 y3) ∧ w'.cell? ⟨b + 1, a + 9, none⟩ = some (.int .u32 y4) := ⟨_, rfl⟩
        have HC3 : Hid (∀ w', SS w' → w'.cell? ⟨b + 1, a, none⟩ = some (.int .u32 y3)) := Lib.hid (by rw [hSS]; exact fun _ h => h.1)
        have HC4 : Hid (∀ w', SS w' → w'.cell? ⟨b + 1, a + 9, none⟩ = some (.int .u32 y4)) := Lib.hid (by rw [hSS]; exact fun _ h => h.2)
        have HSA : Hid (∀ k m, SS ((wr.drewN k).drewN m)) := Lib.hid (by rw [hSS]; exact fun _ _ => ⟨d3, d4⟩)
        have HSet : Hid (∀ w' z, SS w' → SS (w'.setCell ⟨b + 1, a + 16, none⟩ z)) := Lib.hid (by
          rw [hSS]
          exact fun w' z h => ⟨by rw [other_cell _ _ _ _ _ (by omega)]; exact h.1, by rw [other_cell _ _ _ _ _ (by omega)]; exact h.2⟩)
        obtain ⟨z, hz⟩ : ∃ z, IntKind.u32.wrap (IntKind.u32.wrap (IntKind.u32.wrap (y3 + bits .xor .u32 (bits .xor .u32 (turnI y1 7) (turnI y1 18)) (y1 / 8)) + y4) + bits .xor .u32 (bits .xor .u32 (turnI y2 17) (turnI y2 19)) (y2 / 1024)) = z := ⟨_, rfl⟩
        have HZ : Hid (wordR L (a + 16) = z) := Lib.hid (by
          obtain ⟨e1, e2, e3, e4⟩ := HY.out
          unfold wordR
          rw [show a + 16 - 16 = a from by omega, show a + 16 - 15 = a + 1 from by omega, show a + 16 - 7 = a + 9 from by omega, show a + 16 - 2 = a + 14 from by omega, e1, e2, e3, e4, ← hz, IntKind.wrap_u32, IntKind.wrap_u32, IntKind.wrap_u32]
          rfl)
        have HK2 : Hid (restW B (a + 16 + 1) (L.set (a + 16) z) = W) := Lib.hid (by rw [← HZ.out, ← restW_high B (a + 16) (by omega) hlt L]; exact hk.out)
        have HL2 : Hid ((L.set (a + 16) z).length = 64) := Lib.hid (by rw [List.length_set]; exact hl.out)
        have HI2 : Hid (Is32 (L.set (a + 16) z)) := Lib.hid (is32_set h32.out _ _ (by rw [← HZ.out]; exact wordR_range _ _))
        have HF2 : Hid (∀ k, RF w b S B (L.set (a + 16) z) ((wr.drewN k).setCell ⟨b + 1, a + 16, none⟩ (.int .u32 z))) := Lib.hid (fun k => (hf.out.drewN k).set _ _)
        have hHeld0 : SS (wr.drewN nq).drew := by rw [hSS]; exact ⟨d3, d4⟩
        clear hSS d1 d2 d3 d4 hk hl h32 hf
        have hwa : IntKind.i64.wrap (a : Int) = (a : Int) := by rw [IntKind.wrap_i64]; omega
        have hw7 : IntKind.i64.wrap ((a : Int) + 16 - 7) = (a : Int) + 9 := by rw [IntKind.wrap_i64]; omega
        have na : (0 : Int) ≤ (a : Int) := by omega
        have la : (a : Int) < 64 := by omega
        have n9 : (0 : Int) ≤ (a : Int) + 9 := by omega
        have l9 : (a : Int) + 9 < 64 := by omega
        have t9 : ((a : Int) + 9).toNat = a + 9 := by omega
        have n16 : (0 : Int) ≤ (a : Int) + 16 := by omega
        have l16 : (a : Int) + 16 < 64 := by omega
        have t16 : ((a : Int) + 16).toNat = a + 16 := by omega
        refine wp_region_held_drew (S := SS) (by kernel_rfl) hHeld0 (fun hHeld => ?_)
        clear hHeld0
        first | (refine held_take 0 _ rfl (by kernel_rfl) (by kernel_rfl) (by kernel_rfl) (v := ?_) (fun _ _ _ h => h) ?_ rfl hHeld ?_; rotate_left; focus (intro w hS; skip; go_simp; try with_reducible rfl)) | (refine held_skip 0 _ rfl (by kernel_rfl) (by kernel_rfl) (by kernel_rfl) (fun _ _ _ h => h) rfl hHeld ?_)
        show wpAnyH _ _ _ _ _ _ _ { tmps := _, defers := _ } _
        try dsimp only
        try simp only [List.setIfInBounds_toArray]
        try simp only [List.set_cons_succ]
        try simp only [List.set_cons_zero]
        first | (refine held_take 1 _ rfl (by kernel_rfl) (by kernel_rfl) (by kernel_rfl) (v := ?_) (fun _ _ _ h => h) ?_ rfl hHeld ?_; rotate_left; focus (intro w hS; skip; go_simp; try with_reducible rfl)) | (refine held_skip 1 _ rfl (by kernel_rfl) (by kernel_rfl) (by kernel_rfl) (fun _ _ _ h => h) rfl hHeld ?_)
        show wpAnyH _ _ _ _ _ _ _ { tmps := _, defers := _ } _
        try dsimp only
        try simp only [List.setIfInBounds_toArray]
        try simp only [List.set_cons_succ]
        try simp only [List.set_cons_zero]
        first | (refine held_take 2 _ rfl (by kernel_rfl) (by kernel_rfl) (by kernel_rfl) (v := ?_) (fun _ _ _ h => h) ?_ rfl hHeld ?_; rotate_left; focus (intro w hS; skip; go_simp; try with_reducible rfl)) | (refine held_skip 2 _ rfl (by kernel_rfl) (by kernel_rfl) (by kernel_rfl) (fun _ _ _ h => h) rfl hHeld ?_)
        show wpAnyH _ _ _ _ _ _ _ { tmps := _, defers := _ } _
        try dsimp only
        try simp only [List.setIfInBounds_toArray]
        try simp only [List.set_cons_succ]
        try simp only [List.set_cons_zero]
        first | (refine held_take 3 _ rfl (by kernel_rfl) (by kernel_rfl) (by kernel_rfl) (v := ?_) (fun _ _ _ h => h) ?_ rfl hHeld ?_; rotate_left; focus (intro w hS; skip; go_simp; try with_reducible rfl)) | (refine held_skip 3 _ rfl (by kernel_rfl) (by kernel_rfl) (by kernel_rfl) (fun _ _ _ h => h) rfl hHeld ?_)
        show wpAnyH _ _ _ _ _ _ _ { tmps := _, defers := _ } _
        try dsimp only
        try simp only [List.setIfInBounds_toArray]
        try simp only [List.set_cons_succ]
        try simp only [List.set_cons_zero]
        first | (refine held_take 4 _ rfl (by kernel_rfl) (by kernel_rfl) (by kernel_rfl) (v := ?_) (fun _ _ _ h => h) ?_ rfl hHeld ?_; rotate_left; focus (intro w hS; have h3 := HC3.out w hS; go_simp; try with_reducible rfl)) | (refine held_skip 4 _ rfl (by kernel_rfl) (by kernel_rfl) (by kernel_rfl) (fun _ _ _ h => h) rfl hHeld ?_)
        show wpAnyH _ _ _ _ _ _ _ { tmps := _, defers := _ } _
        try dsimp only
        try simp only [List.setIfInBounds_toArray]
        try simp only [List.set_cons_succ]
        try simp only [List.set_cons_zero]
        first | (refine held_take 5 _ rfl (by kernel_rfl) (by kernel_rfl) (by kernel_rfl) (v := ?_) (fun _ _ _ h => h) ?_ rfl hHeld ?_; rotate_left; focus (intro w hS; skip; go_simp; try with_reducible rfl)) | (refine held_skip 5 _ rfl (by kernel_rfl) (by kernel_rfl) (by kernel_rfl) (fun _ _ _ h => h) rfl hHeld ?_)
        show wpAnyH _ _ _ _ _ _ _ { tmps := _, defers := _ } _
        try dsimp only
        try simp only [List.setIfInBounds_toArray]
        try simp only [List.set_cons_succ]
        try simp only [List.set_cons_zero]
        first | (refine held_take 7 _ rfl (by kernel_rfl) (by kernel_rfl) (by kernel_rfl) (v := ?_) (fun _ _ _ h => h) ?_ rfl hHeld ?_; rotate_left; focus (intro w hS; skip; go_simp; try with_reducible rfl)) | (refine held_skip 7 _ rfl (by kernel_rfl) (by kernel_rfl) (by kernel_rfl) (fun _ _ _ h => h) rfl hHeld ?_)
        show wpAnyH _ _ _ _ _ _ _ { tmps := _, defers := _ } _
        try dsimp only
        try simp only [List.setIfInBounds_toArray]
        try simp only [List.set_cons_succ]
        try simp only [List.set_cons_zero]
        first | (refine held_take 10 _ rfl (by kernel_rfl) (by kernel_rfl) (by kernel_rfl) (v := ?_) (fun _ _ _ h => h) ?_ rfl hHeld ?_; rotate_left; focus (intro w hS; skip; go_simp; try with_reducible rfl)) | (refine held_skip 10 _ rfl (by kernel_rfl) (by kernel_rfl) (by kernel_rfl) (fun _ _ _ h => h) rfl hHeld ?_)
        show wpAnyH _ _ _ _ _ _ _ { tmps := _, defers := _ } _
        try dsimp only
        try simp only [List.setIfInBounds_toArray]
        try simp only [List.set_cons_succ]
        try simp only [List.set_cons_zero]
        first | (refine held_take 11 _ rfl (by kernel_rfl) (by kernel_rfl) (by kernel_rfl) (v := ?_) (fun _ _ _ h => h) ?_ rfl hHeld ?_; rotate_left; focus (intro w hS; skip; go_simp; try with_reducible rfl)) | (refine held_skip 11 _ rfl (by kernel_rfl) (by kernel_rfl) (by kernel_rfl) (fun _ _ _ h => h) rfl hHeld ?_)
        show wpAnyH _ _ _ _ _ _ _ { tmps := _, defers := _ } _
        try dsimp only
        try simp only [List.setIfInBounds_toArray]
        try simp only [List.set_cons_succ]
        try simp only [List.set_cons_zero]
        first | (refine held_take 14 _ rfl (by kernel_rfl) (by kernel_rfl) (by kernel_rfl) (v := ?_) (fun _ _ _ h => h) ?_ rfl hHeld ?_; rotate_left; focus (intro w hS; skip; go_simp; try with_reducible rfl)) | (refine held_skip 14 _ rfl (by kernel_rfl) (by kernel_rfl) (by kernel_rfl) (fun _ _ _ h => h) rfl hHeld ?_)
        show wpAnyH _ _ _ _ _ _ _ { tmps := _, defers := _ } _
        try dsimp only
        try simp only [List.setIfInBounds_toArray]
        try simp only [List.set_cons_succ]
        try simp only [List.set_cons_zero]
        first | (refine held_take 15 _ rfl (by kernel_rfl) (by kernel_rfl) (by kernel_rfl) (v := ?_) (fun _ _ _ h => h) ?_ rfl hHeld ?_; rotate_left; focus (intro w hS; skip; go_simp; try with_reducible rfl)) | (refine held_skip 15 _ rfl (by kernel_rfl) (by kernel_rfl) (by kernel_rfl) (fun _ _ _ h => h) rfl hHeld ?_)
        show wpAnyH _ _ _ _ _ _ _ { tmps := _, defers := _ } _
        try dsimp only
        try simp only [List.setIfInBounds_toArray]
        try simp only [List.set_cons_succ]
        try simp only [List.set_cons_zero]
        first | (refine held_take 16 _ rfl (by kernel_rfl) (by kernel_rfl) (by kernel_rfl) (v := ?_) (fun _ _ _ h => h) ?_ rfl hHeld ?_; rotate_left; focus (intro w hS; skip; go_simp; try with_reducible rfl)) | (refine held_skip 16 _ rfl (by kernel_rfl) (by kernel_rfl) (by kernel_rfl) (fun _ _ _ h => h) rfl hHeld ?_)
        show wpAnyH _ _ _ _ _ _ _ { tmps := _, defers := _ } _
        try dsimp only
        try simp only [List.setIfInBounds_toArray]
        try simp only [List.set_cons_succ]
        try simp only [List.set_cons_zero]
        first | (refine held_take 17 _ rfl (by kernel_rfl) (by kernel_rfl) (by kernel_rfl) (v := ?_) (fun _ _ _ h => h) ?_ rfl hHeld ?_; rotate_left; focus (intro w hS; have h4 := HC4.out w hS; go_simp; try with_reducible rfl)) | (refine held_skip 17 _ rfl (by kernel_rfl) (by kernel_rfl) (by kernel_rfl) (fun _ _ _ h => h) rfl hHeld ?_)
        show wpAnyH _ _ _ _ _ _ _ { tmps := _, defers := _ } _
        try dsimp only
        try simp only [List.setIfInBounds_toArray]
        try simp only [List.set_cons_succ]
        try simp only [List.set_cons_zero]
        first | (refine held_take 19 _ rfl (by kernel_rfl) (by kernel_rfl) (by kernel_rfl) (v := ?_) (fun _ _ _ h => h) ?_ rfl hHeld ?_; rotate_left; focus (intro w hS; skip; go_simp; try with_reducible rfl)) | (refine held_skip 19 _ rfl (by kernel_rfl) (by kernel_rfl) (by kernel_rfl) (fun _ _ _ h => h) rfl hHeld ?_)
        show wpAnyH _ _ _ _ _ _ _ { tmps := _, defers := _ } _
        try dsimp only
        try simp only [List.setIfInBounds_toArray]
        try simp only [List.set_cons_succ]
        try simp only [List.set_cons_zero]
        first | (refine held_take 21 _ rfl (by kernel_rfl) (by kernel_rfl) (by kernel_rfl) (v := ?_) (fun _ _ _ h => h) ?_ rfl hHeld ?_; rotate_left; focus (intro w hS; skip; go_simp; try with_reducible rfl)) | (refine held_skip 21 _ rfl (by kernel_rfl) (by kernel_rfl) (by kernel_rfl) (fun _ _ _ h => h) rfl hHeld ?_)
        show wpAnyH _ _ _ _ _ _ _ { tmps := _, defers := _ } _
        try dsimp only
        try simp only [List.setIfInBounds_toArray]
        try simp only [List.set_cons_succ]
        try simp only [List.set_cons_zero]
        first | (refine held_take 24 _ rfl (by kernel_rfl) (by kernel_rfl) (by kernel_rfl) (v := ?_) (fun _ _ _ h => h) ?_ rfl hHeld ?_; rotate_left; focus (intro w hS; skip; go_simp; try with_reducible rfl)) | (refine held_skip 24 _ rfl (by kernel_rfl) (by kernel_rfl) (by kernel_rfl) (fun _ _ _ h => h) rfl hHeld ?_)
        show wpAnyH _ _ _ _ _ _ _ { tmps := _, defers := _ } _
        try dsimp only
        try simp only [List.setIfInBounds_toArray]
        try simp only [List.set_cons_succ]
        try simp only [List.set_cons_zero]
        first | (refine held_take 25 _ rfl (by kernel_rfl) (by kernel_rfl) (by kernel_rfl) (v := ?_) (fun _ _ _ h => h) ?_ rfl hHeld ?_; rotate_left; focus (intro w hS; skip; go_simp; try with_reducible rfl)) | (refine held_skip 25 _ rfl (by kernel_rfl) (by kernel_rfl) (by kernel_rfl) (fun _ _ _ h => h) rfl hHeld ?_)
        show wpAnyH _ _ _ _ _ _ _ { tmps := _, defers := _ } _
        try dsimp only
        try simp only [List.setIfInBounds_toArray]
        try simp only [List.set_cons_succ]
        try simp only [List.set_cons_zero]
        refine held_next 6 _ (by kernel_rfl) rfl rfl fun K hK => ?_
        go_simp
        refine (HR7.out _).mono ?_
        rintro e w2 ⟨rfl, m, rfl⟩
        show K _ _
        refine hK _ _ (HSA.out _ _) (fun hHeld => ?_)
        rw [World.drewN_drewN] at hHeld ⊢
        clear hK K
        show wpAnyH _ _ _ _ _ _ _ { tmps := _, defers := _ } _
        try dsimp only
        try simp only [List.setIfInBounds_toArray]
        try simp only [List.set_cons_succ]
        try simp only [List.set_cons_zero]
        refine held_next 8 _ (by kernel_rfl) rfl rfl fun K hK => ?_
        go_simp
        refine (HR18.out _).mono ?_
        rintro e w2 ⟨rfl, m, rfl⟩
        show K _ _
        refine hK _ _ (HSA.out _ _) (fun hHeld => ?_)
        rw [World.drewN_drewN] at hHeld ⊢
        clear hK K
        show wpAnyH _ _ _ _ _ _ _ { tmps := _, defers := _ } _
        try dsimp only
        try simp only [List.setIfInBounds_toArray]
        try simp only [List.set_cons_succ]
        try simp only [List.set_cons_zero]
        first | (refine held_take 9 _ rfl (by kernel_rfl) (by kernel_rfl) (by kernel_rfl) (v := ?_) (fun _ _ _ h => h) ?_ rfl hHeld ?_; rotate_left; focus (intro w hS; skip; go_simp; try with_reducible rfl)) | (refine held_skip 9 _ rfl (by kernel_rfl) (by kernel_rfl) (by kernel_rfl) (fun _ _ _ h => h) rfl hHeld ?_)
        show wpAnyH _ _ _ _ _ _ _ { tmps := _, defers := _ } _
        try dsimp only
        try simp only [List.setIfInBounds_toArray]
        try simp only [List.set_cons_succ]
        try simp only [List.set_cons_zero]
        first | (refine held_take 12 _ rfl (by kernel_rfl) (by kernel_rfl) (by kernel_rfl) (v := ?_) (fun _ _ _ h => h) ?_ rfl hHeld ?_; rotate_left; focus (intro w hS; skip; go_simp; try with_reducible rfl)) | (refine held_skip 12 _ rfl (by kernel_rfl) (by kernel_rfl) (by kernel_rfl) (fun _ _ _ h => h) rfl hHeld ?_)
        show wpAnyH _ _ _ _ _ _ _ { tmps := _, defers := _ } _
        try dsimp only
        try simp only [List.setIfInBounds_toArray]
        try simp only [List.set_cons_succ]
        try simp only [List.set_cons_zero]
        first | (refine held_take 13 _ rfl (by kernel_rfl) (by kernel_rfl) (by kernel_rfl) (v := ?_) (fun _ _ _ h => h) ?_ rfl hHeld ?_; rotate_left; focus (intro w hS; skip; go_simp; try with_reducible rfl)) | (refine held_skip 13 _ rfl (by kernel_rfl) (by kernel_rfl) (by kernel_rfl) (fun _ _ _ h => h) rfl hHeld ?_)
        show wpAnyH _ _ _ _ _ _ _ { tmps := _, defers := _ } _
        try dsimp only
        try simp only [List.setIfInBounds_toArray]
        try simp only [List.set_cons_succ]
        try simp only [List.set_cons_zero]
        first | (refine held_take 18 _ rfl (by kernel_rfl) (by kernel_rfl) (by kernel_rfl) (v := ?_) (fun _ _ _ h => h) ?_ rfl hHeld ?_; rotate_left; focus (intro w hS; skip; go_simp; try with_reducible rfl)) | (refine held_skip 18 _ rfl (by kernel_rfl) (by kernel_rfl) (by kernel_rfl) (fun _ _ _ h => h) rfl hHeld ?_)
        show wpAnyH _ _ _ _ _ _ _ { tmps := _, defers := _ } _
        try dsimp only
        try simp only [List.setIfInBounds_toArray]
        try simp only [List.set_cons_succ]
        try simp only [List.set_cons_zero]
        refine held_next 20 _ (by kernel_rfl) rfl rfl fun K hK => ?_
        go_simp
        refine (HR17.out _).mono ?_
        rintro e w2 ⟨rfl, m, rfl⟩
        show K _ _
        refine hK _ _ (HSA.out _ _) (fun hHeld => ?_)
        rw [World.drewN_drewN] at hHeld ⊢
        clear hK K
        show wpAnyH _ _ _ _ _ _ _ { tmps := _, defers := _ } _
        try dsimp only
        try simp only [List.setIfInBounds_toArray]
        try simp only [List.set_cons_succ]
        try simp only [List.set_cons_zero]
        refine held_next 22 _ (by kernel_rfl) rfl rfl fun K hK => ?_
        go_simp
        refine (HR19.out _).mono ?_
        rintro e w2 ⟨rfl, m, rfl⟩
        show K _ _
        refine hK _ _ (HSA.out _ _) (fun hHeld => ?_)
        rw [World.drewN_drewN] at hHeld ⊢
        clear hK K
        show wpAnyH _ _ _ _ _ _ _ { tmps := _, defers := _ } _
        try dsimp only
        try simp only [List.setIfInBounds_toArray]
        try simp only [List.set_cons_succ]
        try simp only [List.set_cons_zero]
        first | (refine held_take 23 _ rfl (by kernel_rfl) (by kernel_rfl) (by kernel_rfl) (v := ?_) (fun _ _ _ h => h) ?_ rfl hHeld ?_; rotate_left; focus (intro w hS; skip; go_simp; try with_reducible rfl)) | (refine held_skip 23 _ rfl (by kernel_rfl) (by kernel_rfl) (by kernel_rfl) (fun _ _ _ h => h) rfl hHeld ?_)
        show wpAnyH _ _ _ _ _ _ _ { tmps := _, defers := _ } _
        try dsimp only
        try simp only [List.setIfInBounds_toArray]
        try simp only [List.set_cons_succ]
        try simp only [List.set_cons_zero]
        first | (refine held_take 26 _ rfl (by kernel_rfl) (by kernel_rfl) (by kernel_rfl) (v := ?_) (fun _ _ _ h => h) ?_ rfl hHeld ?_; rotate_left; focus (intro w hS; skip; go_simp; try with_reducible rfl)) | (refine held_skip 26 _ rfl (by kernel_rfl) (by kernel_rfl) (by kernel_rfl) (fun _ _ _ h => h) rfl hHeld ?_)
        show wpAnyH _ _ _ _ _ _ _ { tmps := _, defers := _ } _
        try dsimp only
        try simp only [List.setIfInBounds_toArray]
        try simp only [List.set_cons_succ]
        try simp only [List.set_cons_zero]
        first | (refine held_take 27 _ rfl (by kernel_rfl) (by kernel_rfl) (by kernel_rfl) (v := ?_) (fun _ _ _ h => h) ?_ rfl hHeld ?_; rotate_left; focus (intro w hS; skip; go_simp; try with_reducible rfl)) | (refine held_skip 27 _ rfl (by kernel_rfl) (by kernel_rfl) (by kernel_rfl) (fun _ _ _ h => h) rfl hHeld ?_)
        show wpAnyH _ _ _ _ _ _ _ { tmps := _, defers := _ } _
        try dsimp only
        try simp only [List.setIfInBounds_toArray]
        try simp only [List.set_cons_succ]
        try simp only [List.set_cons_zero]
        first | (refine held_take 28 _ rfl (by kernel_rfl) (by kernel_rfl) (by kernel_rfl) (v := ?_) (fun _ _ _ h => h) ?_ rfl hHeld ?_; rotate_left; focus (intro w hS; skip; go_simp; try with_reducible rfl)) | (refine held_skip 28 _ rfl (by kernel_rfl) (by kernel_rfl) (by kernel_rfl) (fun _ _ _ h => h) rfl hHeld ?_)
        show wpAnyH _ _ _ _ _ _ _ { tmps := _, defers := _ } _
        try dsimp only
        try simp only [List.setIfInBounds_toArray]
        try simp only [List.set_cons_succ]
        try simp only [List.set_cons_zero]
        refine held_next 29 _ (by kernel_rfl) rfl rfl fun K hK => ?_
        go_simp
        refine hK _ _ (HSet.out _ _ hHeld) (fun hHeld => ?_)
        clear hK K
        show wpAnyH _ _ _ _ _ _ _ { tmps := _, defers := _ } _
        try dsimp only
        try simp only [List.setIfInBounds_toArray]
        try simp only [List.set_cons_succ]
        try simp only [List.set_cons_zero]
        refine wpAnyH_done (by kernel_rfl) ?_ _
        clear hHeld hz hwa hw7 na la n9 l9 t9 n16 l16 t16 d0 f1 x1 x2 x3 x4 r1 r2
        go_wp2_with fail
        go_roundw
        case rel => exact ⟨a + 16 + 1, _, by go_num, hlt, HK2, HL2, HI2, HF2.out _⟩
        case measure => simp [RowKit.intOf]; omega
    · obtain rfl : t = 64 := by omega
      have hLW : L = W := by rw [← hk.out]; exact (restW_end B L).symm
      subst hLW
      obtain ⟨wq, hwq⟩ : ∃ wq : World, wq = wr := ⟨_, rfl⟩
      rw [← hwq] at hf ⊢
      clear hwq hk hlt ht f1 h32
      have cell : ∀ j, j < 8 → wq.cell? ⟨w.heap.size, j, none⟩ = some (.int .u32 (S.getD j 0)) := fun j hj => by rw [cell_of_heap hf.out.s]; exact cells32_get S _ (by rw [HLS.out]; exact hj)
      obtain ⟨⟨p0, p1, p2, p3, p4, p5, p6, p7⟩, hs⟩ : ∃ s, r8 S = s := ⟨_, rfl⟩
      have hs' := hs
      unfold r8 at hs'
      simp only [R8.mk.injEq] at hs'
      obtain ⟨e0, e1, e2, e3, e4, e5, e6, e7⟩ := hs'
      have d0 := cell 0 (by decide)
      have d1 := cell 1 (by decide)
      have d2 := cell 2 (by decide)
      have d3 := cell 3 (by decide)
      have d4 := cell 4 (by decide)
      have d5 := cell 5 (by decide)
      have d6 := cell 6 (by decide)
      have d7 := cell 7 (by decide)
      rw [e0] at d0
      rw [e1] at d1
      rw [e2] at d2
      rw [e3] at d3
      rw [e4] at d4
      rw [e5] at d5
      rw [e6] at d6
      rw [e7] at d7
      have HE := Lib.hid (And.intro e0 (And.intro e1 (And.intro e2 (And.intro e3 (And.intro e4 (And.intro e5 (And.intro e6 e7)))))))
      rw [hs] at HR
      clear hs e0 e1 e2 e3 e4 e5 e6 e7 cell
      rw [show ((64 : Nat) : Int) = 64 from rfl]
      go_wp2_with fail
      go_quiet (fail)
      go_wp2_with fail
      have HS2 : Hid (∃ (t : Nat) (s : R8), Value.int .i64 0 = .int .i64 t ∧ t ≤ 64 ∧ Value.int .u32 p0 = .int .u32 s.a ∧ Value.int .u32 p1 = .int .u32 s.b ∧ Value.int .u32 p2 = .int .u32 s.c ∧ Value.int .u32 p3 = .int .u32 s.d ∧ Value.int .u32 p4 = .int .u32 s.e ∧ Value.int .u32 p5 = .int .u32 s.f ∧ Value.int .u32 p6 = .int .u32 s.g ∧ Value.int .u32 p7 = .int .u32 s.h ∧
        Hid (foldR (kI.drop t) (L.drop t) s = foldR kI L ⟨p0, p1, p2, p3, p4, p5, p6, p7⟩) ∧ Hid (∃ n, wq.drewN nq = wq.drewN n)) := Lib.hid ⟨0, ⟨p0, p1, p2, p3, p4, p5, p6, p7⟩, rfl, by decide, rfl, rfl, rfl, rfl, rfl, rfl, rfl, rfl, Lib.hid rfl, Lib.hid ⟨nq, rfl⟩⟩
      clear d0 d1 d2 d3 d4 d5 d6 d7
      go_loopw [10, 11, 12, 13, 14, 15, 16, 17, 18] (fun r0 r1 r2 r3 r4 r5 r6 r7 v wr => ∃ (t : Nat) (s : R8), v = .int .i64 t ∧ t ≤ 64 ∧ r0 = .int .u32 s.a ∧ r1 = .int .u32 s.b ∧ r2 = .int .u32 s.c ∧ r3 = .int .u32 s.d ∧ r4 = .int .u32 s.e ∧ r5 = .int .u32 s.f ∧ r6 = .int .u32 s.g ∧ r7 = .int .u32 s.h ∧
        Hid (foldR (kI.drop t) (L.drop t) s = foldR kI L ⟨p0, p1, p2, p3, p4, p5, p6, p7⟩) ∧ Hid (∃ n, wr = wq.drewN n)) (fun _ _ _ _ _ _ _ _ v _ => 64 - (RowKit.intOf v).toNat)
      case atStart => exact HS2.out
      case round =>
        clear HS2
        obtain ⟨t, ⟨a, b', c, d, e, f, g, h⟩, rfl, ht, rfl, rfl, rfl, rfl, rfl, rfl, rfl, rfl, hk, hw⟩ := hrel
        have hfr : Hid (RF w b S B L wr) := Lib.hid (by obtain ⟨n, hn⟩ := hw.out; rw [hn]; exact hf.out.drewN n)
        by_cases hlt : t < 64
        · obtain ⟨x, hx⟩ : ∃ x, L.getD t 0 = x := ⟨_, rfl⟩
          obtain ⟨k, hkk⟩ : ∃ k, kI.getD t 0 = k := ⟨_, rfl⟩
          have c1 : wr.cell? ⟨b, t, none⟩ = some (.int .u32 k) := by rw [cell_of_heap hfr.out.k, cells32_get kI t hlt, hkk]
          have c2 : wr.cell? ⟨b + 1, t, none⟩ = some (.int .u32 x) := by rw [cell_of_heap hfr.out.l, cells32_get L t (by rw [hl.out]; exact hlt), hx]
          have hd : decide ((t : Int) < 64) = true := decide_eq_true (by omega)
          have hti : (t : Int) < 64 := by omega
          have HK : Hid (foldR (kI.drop (t + 1)) (L.drop (t + 1)) (stepR k x ⟨a, b', c, d, e, f, g, h⟩) = foldR kI L ⟨p0, p1, p2, p3, p4, p5, p6, p7⟩) := Lib.hid (by
            rw [← hk.out, foldR_step kI L t (by exact hlt) (by rw [hl.out]; exact hlt), hkk, hx])
          clear hx hkk hk
          go_wp2_with fail
          go_quiet ((go_at_call 99; exact Calls.quiet_of (refR_int _ _ (by decide) _)))
          go_wp2_with fail
          have HR2 : Hid (∀ w, Calls Tryd.prog 99 #[.int .u32 a, .int .i64 2] w fun e w' => e = .returned (.int .u32 (turnI a 2)) ∧ ∃ m, w' = w.drewN m) := Lib.hid (fun w => refR_int a 2 (by decide) w)
          have HR13 : Hid (∀ w, Calls Tryd.prog 99 #[.int .u32 a, .int .i64 13] w fun e w' => e = .returned (.int .u32 (turnI a 13)) ∧ ∃ m, w' = w.drewN m) := Lib.hid (fun w => refR_int a 13 (by decide) w)
          have HR22 : Hid (∀ w, Calls Tryd.prog 99 #[.int .u32 a, .int .i64 22] w fun e w' => e = .returned (.int .u32 (turnI a 22)) ∧ ∃ m, w' = w.drewN m) := Lib.hid (fun w => refR_int a 22 (by decide) w)
          refine (HR2.out _).mono ?_
          rintro e w2 ⟨rfl, m2, rfl⟩
          go_wp2_with fail
          refine (HR13.out _).mono ?_
          rintro e w3 ⟨rfl, m3, rfl⟩
          go_wp2_with fail
          refine (HR22.out _).mono ?_
          rintro e w4 ⟨rfl, m4, rfl⟩
          go_wp2_with fail
          go_roundw
          case rel => exact ⟨t + 1, _, by go_num, hlt, rfl, rfl, rfl, rfl, rfl, rfl, rfl, rfl, HK, Lib.hid (by obtain ⟨n, hn⟩ := hw.out; rw [hn]; simp only [World.drewN_drewN]; exact ⟨_, rfl⟩)⟩
          case measure => simp [RowKit.intOf]; omega
        · obtain rfl : t = 64 := by omega
          have hR : (⟨a, b', c, d, e, f, g, h⟩ : R8) = foldR kI L ⟨p0, p1, p2, p3, p4, p5, p6, p7⟩ := by
            have h := hk.out
            rw [List.drop_of_length_le (by decide)] at h
            exact h
          obtain ⟨e0, e1, e2, e3, e4, e5, e6, e7⟩ := HE.out
          have HF1 : Hid (F = [w32 (p0 + a), w32 (p1 + b'), w32 (p2 + c), w32 (p3 + d), w32 (p4 + e), w32 (p5 + f), w32 (p6 + g), w32 (p7 + h)]) := Lib.hid (by
            rw [HR.out, ← hR]
            show foldC [a, b', c, d, e, f, g, h] 0 S = _
            rw [foldC_eight _ _ _ _ _ _ _ _ S HLS.out, e0, e1, e2, e3, e4, e5, e6, e7])
          have cell : ∀ j, j < 8 → wr.cell? ⟨w.heap.size, j, none⟩ = some (.int .u32 (S.getD j 0)) := fun j hj => by rw [cell_of_heap hfr.out.s]; exact cells32_get S _ (by rw [HLS.out]; exact hj)
          have d0 := cell 0 (by decide)
          have d1 := cell 1 (by decide)
          have d2 := cell 2 (by decide)
          have d3 := cell 3 (by decide)
          have d4 := cell 4 (by decide)
          have d5 := cell 5 (by decide)
          have d6 := cell 6 (by decide)
          have d7 := cell 7 (by decide)
          rw [e0] at d0
          rw [e1] at d1
          rw [e2] at d2
          rw [e3] at d3
          rw [e4] at d4
          rw [e5] at d5
          rw [e6] at d6
          rw [e7] at d7
          obtain ⟨z0, hz0⟩ : ∃ z, w32 (p0 + a) = z := ⟨_, rfl⟩
          obtain ⟨z1, hz1⟩ : ∃ z, w32 (p1 + b') = z := ⟨_, rfl⟩
          obtain ⟨z2, hz2⟩ : ∃ z, w32 (p2 + c) = z := ⟨_, rfl⟩
          obtain ⟨z3, hz3⟩ : ∃ z, w32 (p3 + d) = z := ⟨_, rfl⟩
          obtain ⟨z4, hz4⟩ : ∃ z, w32 (p4 + e) = z := ⟨_, rfl⟩
          obtain ⟨z5, hz5⟩ : ∃ z, w32 (p5 + f) = z := ⟨_, rfl⟩
          obtain ⟨z6, hz6⟩ : ∃ z, w32 (p6 + g) = z := ⟨_, rfl⟩
          obtain ⟨z7, hz7⟩ : ∃ z, w32 (p7 + h) = z := ⟨_, rfl⟩
          rw [hz0, hz1, hz2, hz3, hz4, hz5, hz6, hz7] at HF1
          have y0 : IntKind.u32.wrap (p0 + a) = z0 := by rw [IntKind.wrap_u32]; exact hz0
          have y1 : IntKind.u32.wrap (p1 + b') = z1 := by rw [IntKind.wrap_u32]; exact hz1
          have y2 : IntKind.u32.wrap (p2 + c) = z2 := by rw [IntKind.wrap_u32]; exact hz2
          have y3 : IntKind.u32.wrap (p3 + d) = z3 := by rw [IntKind.wrap_u32]; exact hz3
          have y4 : IntKind.u32.wrap (p4 + e) = z4 := by rw [IntKind.wrap_u32]; exact hz4
          have y5 : IntKind.u32.wrap (p5 + f) = z5 := by rw [IntKind.wrap_u32]; exact hz5
          have y6 : IntKind.u32.wrap (p6 + g) = z6 := by rw [IntKind.wrap_u32]; exact hz6
          have y7 : IntKind.u32.wrap (p7 + h) = z7 := by rw [IntKind.wrap_u32]; exact hz7
          obtain ⟨Z, hZ⟩ : ∃ Z, Z = cells32 [z0, z1, z2, z3, z4, z5, z6, z7] := ⟨_, rfl⟩
          have HArr : Hid ((#[.int .u32 z0, .int .u32 z1, .int .u32 z2, .int .u32 z3, .int .u32 z4, .int .u32 z5, .int .u32 z6, .int .u32 z7] : Array Value) = Z) := Lib.hid (by rw [hZ]; rfl)
          have HZF : Hid (Z = cells32 F) := Lib.hid (by rw [hZ, HF1.out])
          have hsX : (Tryd.prog.info? 26).map (·.size) = some Z.size := by rw [hZ, cells32_size]; exact sizeState
          have HSX := Lib.hid hsX
          have H1X : Hid (Z.all (·.oneCell') = true) := Lib.hid (by rw [hZ]; exact cells32_one _)
          have HOX : Hid ((cells32 zeros8).size = Z.size) := Lib.hid (by rw [hZ, cells32_size, cells32_size]; rfl)
          have HV : Hid ((wr.setRow (w.heap.size + 1 + 1) Z).heap[w.heap.size + 1 + 1]? = some (.cells Z 26 (0, 0))) := Lib.hid (setRow_heap wr _ _ _ _ _ hfr.out.r)
          have HG5 : Hid (Below w.heap.size w (wr.setRow (w.heap.size + 1 + 1) Z)) := Lib.hid (by
            have hbl : Below w.heap.size w wr := hfr.out.below
            have hs := hbl.size
            exact hbl.trans (⟨rfl, rfl, rfl, by simp, fun j hj => setRow_other wr _ j _ (by omega)⟩ : Below w.heap.size wr (wr.setRow (w.heap.size + 1 + 1) Z)))
          have HRr := Lib.hid hfr.out.r
          clear hz0 hz1 hz2 hz3 hz4 hz5 hz6 hz7 hR cell e0 e1 e2 e3 e4 e5 e6 e7 hsX hZ hk hlt ht hfr hf hw HR HE
          rw [show ((64 : Nat) : Int) = 64 from rfl]
          go_wp2_with (refine wpList_store_row rfl 26 (.tmp 4) (.tmp 207) rfl (w.heap.size + 1 + 1) Z rfl (congrArg Value.agg HArr.out) 26 _ HRr.out HSX.out HOX.out H1X.out ?_)
          exact bodyPost_ret (results_cell_row rfl _ _ (w.heap.size + 1 + 1) 26 Z (0, 0) _ rfl HV.out Tryd.underlying26 rfl HSX.out) rfl ⟨by rw [HZF.out], HG5.out⟩
end Go.Proofs.YtjjahcidncnogaaDoor
