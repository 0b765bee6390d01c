/- A block's round: plain, and the contract of sha's Round. -/
import Derived.Test.YtjjahcidncnogaaDoorShaSpread
namespace Go.Proofs.YtjjahcidncnogaaDoor
open Go.RowKit Go.Lib

/-- The table sha.constants. -/
def kI : List Int := [1116352408, 1899447441, 3049323471, 3921009573, 961987163, 1508970993, 2453635748, 2870763221, 3624381080, 310598401, 607225278, 1426881987, 1925078388, 2162078206, 2614888103, 3248222580, 3835390401, 4022224774, 264347078, 604807628, 770255983, 1249150122, 1555081692, 1996064986, 2554220882, 2821834349, 2952996808, 3210313671, 3336571891, 3584528711, 113926993, 338241895, 666307205, 773529912, 1294757372, 1396182291, 1695183700, 1986661051, 2177026350, 2456956037, 2730485921, 2820302411, 3259730800, 3345764771, 3516065817, 3600352804, 4094571909, 275423344, 430227734, 506948616, 659060556, 883997877, 958139571, 1322822218, 1537002063, 1747873779, 1955562222, 2024104815, 2227730452, 2361852424, 2428436474, 2756734187, 3204031479, 3329325298]
structure R8 where
  (a b c d e f g h : Int)
def sum1 (e : Int) : Int := bits .xor .u32 (bits .xor .u32 (turnI e 6) (turnI e 11)) (turnI e 25)
def sum0 (a : Int) : Int := bits .xor .u32 (bits .xor .u32 (turnI a 2) (turnI a 13)) (turnI a 22)
def notI (e : Int) : Int := bits .xor .u32 (if IntKind.u32.signed = true then -1 else IntKind.u32.max) e
def chI (e f g : Int) : Int := bits .xor .u32 (bits .and .u32 e f) (bits .and .u32 (notI e) g)
def majI (a b c : Int) : Int := bits .xor .u32 (bits .xor .u32 (bits .and .u32 a b) (bits .and .u32 a c)) (bits .and .u32 b c)
def tOne (k x : Int) (s : R8) : Int := w32 (s.h + sum1 s.e + chI s.e s.f s.g + k + x)
def tTwo (s : R8) : Int := w32 (sum0 s.a + majI s.a s.b s.c)
def stepR (k x : Int) (s : R8) : R8 := ⟨w32 (tOne k x s + tTwo s), s.a, s.b, s.c, w32 (s.d + tOne k x s), s.e, s.f, s.g⟩
def foldR : List Int → List Int → R8 → R8
  | k :: ks, x :: xs, s => foldR ks xs (stepR k x s)
  | _, _, s => s
def r8 (S : List Int) : R8 := ⟨S.getD 0 0, S.getD 1 0, S.getD 2 0, S.getD 3 0, S.getD 4 0, S.getD 5 0, S.getD 6 0, S.getD 7 0⟩
def listR (s : R8) : List Int := [s.a, s.b, s.c, s.d, s.e, s.f, s.g, s.h]
def foldC : List Int → Nat → List Int → List Int
  | [], _, L => L
  | x :: t, i, L => foldC t (i + 1) (L.set i (w32 (L.getD i 0 + x)))
theorem foldR_step (K W : List Int) (t : Nat) (hk : t < K.length) (hw : t < W.length) (s : R8) : foldR (K.drop t) (W.drop t) s = foldR (K.drop (t + 1)) (W.drop (t + 1)) (stepR (K.getD t 0) (W.getD t 0) s) := by
  rw [List.drop_eq_getElem_cons hk, List.drop_eq_getElem_cons hw]
  show foldR _ _ (stepR K[t] W[t] s) = _
  rw [List.getD_eq_getElem?_getD, List.getD_eq_getElem?_getD, List.getElem?_eq_getElem hk, List.getElem?_eq_getElem hw]
  rfl
/-- The state behind a block. -/
def roundI (S B : List Int) : List Int := foldC (listR (foldR kI (spreadI B) (r8 S))) 0 S
theorem foldC_length : ∀ (R : List Int) (i : Nat) (L : List Int), (foldC R i L).length = L.length
  | [], _, _ => rfl
  | x :: t, i, L => by unfold foldC; rw [foldC_length t (i + 1), List.length_set]
theorem foldA_length : ∀ (R : List Int) (i : Nat) (L : List Int), (foldA R i L).length = L.length
  | [], _, _ => rfl
  | x :: t, i, L => by unfold foldA; rw [foldA_length t (i + 1)]; unfold stepA; rw [List.length_set]
theorem foldB_length : ∀ (n t : Nat) (L : List Int), (foldB n t L).length = L.length
  | 0, _, _ => rfl
  | n + 1, t, L => by unfold foldB; rw [foldB_length n (t + 1)]; unfold stepB; rw [List.length_set]
theorem roundI_length (S B : List Int) : (roundI S B).length = S.length := foldC_length _ _ _
theorem spreadI_length (B : List Int) : (spreadI B).length = 64 := by unfold spreadI; rw [foldB_length, foldA_length]; rfl

/-- The table stands. -/
def Tab (w : World) : Prop := ∀ i, i < 64 → w.cell? ⟨0, i, none⟩ = some (.int .u32 (kI.getD i 0))
theorem Tab.lt {w : World} (h : Tab w) : 0 < w.heap.size := by have := block_lt_of_cell (h 0 (by decide)); exact this
theorem Tab.below {w w' : World} (h : Tab w) (hb : Below w.heap.size w w') : Tab w' := fun i hi => (hb.cell (p := ⟨0, i, none⟩) h.lt).trans (h i hi)
theorem Tab.alloc {w : World} (h : Tab w) (o : Obj) : Tab (w.alloc o) := h.below ((Below.refl _ w).alloc (Nat.le_refl _) _)

theorem sizeState : (Tryd.prog.info? 26).map (·.size) = some 8 := by kernel_rfl
theorem index_words (L : List Int) (hL : L.length = 64) (i : Nat) (h : i < L.length) (w : World) : (Instr.index 141 (.agg (cells32 L)) (.int .i64 (i : Int))).run Tryd.prog w = .ok (.int .u32 (L.getD i 0)) w := by
  have hc := cells32_get L i h
  have h1 : (i : Int) < 64 := by omega
  have h0 : (0 : Int) ≤ (i : Int) := by omega
  simp [Instr.index, asIntOf, run_underlying Tryd.underlying141, h0, Tryd.sizeOf25, Go.part, isAgg, run_underlying Tryd.underlying25, hc]
  intro hh
  omega
theorem index_eight (L : List Int) (hL : L.length = 8) (i : Nat) (h : i < L.length) (w : World) : (Instr.index 26 (.agg (cells32 L)) (.int .i64 (i : Int))).run Tryd.prog w = .ok (.int .u32 (L.getD i 0)) w := by
  have hc := cells32_get L i h
  have h1 : (i : Int) < 8 := by omega
  have h0 : (0 : Int) ≤ (i : Int) := by omega
  simp [Instr.index, asIntOf, run_underlying Tryd.underlying26, h0, Tryd.sizeOf25, Go.part, isAgg, run_underlying Tryd.underlying25, hc]
  intro hh
  omega
def zeros8 : List Int := List.replicate 8 0

set_option maxRecDepth 100000 in
set_option maxHeartbeats 8000000 in
theorem round_any (S B : List Int) (hS : S.length = 8) (hB : B.length = 64) (h8 : ∀ x ∈ B, 0 ≤ x ∧ x < 256) (w : World) (hT : Tab w) :
    Calls Tryd.prog 100 #[.agg (cells32 S), .agg (cells8 B)] w fun e w' => e = .returned (.agg (cells32 (roundI S B))) ∧ Below w.heap.size w w' := by
  have hsB : (Tryd.prog.info? 112).map (·.size) = some (cells8 B).size := by rw [cells8_size, hB]; exact sizeBlock
  have hsS : (Tryd.prog.info? 26).map (·.size) = some (cells32 S).size := by rw [cells32_size, hS]; exact sizeState
  have HSB := Lib.hid hsB
  have HSS := Lib.hid hsS
  have HSpread := Lib.hid (fun w => spread_any B hB h8 w)
  have HlW := Lib.hid (spreadI_length B)
  have hsW : (Tryd.prog.info? 141).map (·.size) = some (cells32 (spreadI B)).size := by rw [cells32_size, HlW.out]; exact sizeWords
  have h1W : (cells32 (spreadI B)).all (·.oneCell') = true := cells32_one _
  have HSW := Lib.hid hsW
  have H1W := Lib.hid h1W
  have HR : Hid (roundI S B = foldC (listR (foldR kI (spreadI B) (r8 S))) 0 S) := Lib.hid rfl
  obtain ⟨F, hF⟩ : ∃ F, roundI S B = F := ⟨_, rfl⟩
  obtain ⟨W, hW⟩ : ∃ W, spreadI B = W := ⟨_, rfl⟩
  rw [hF] at HR ⊢
  rw [hW] at HR HSpread HlW HSW H1W
  have HOW : Hid ((cells32 zeros64).size = (cells32 W).size) := Lib.hid (by rw [cells32_size, cells32_size, HlW.out]; rfl)
  clear hF hW hsB hsS hsW h1W
  obtain ⟨v0, hv0⟩ : ∃ v, v = ((w.alloc (.cells (cells32 S) 26)).alloc (.cells (cells8 B) 112)).alloc (.cells (cells32 zeros8) 26) := ⟨_, rfl⟩
  have HV0 := Lib.hid hv0
  have HA0 : Hid (v0.heap[w.heap.size]? = some (.cells (cells32 S) 26 (0, 0))) := Lib.hid (by
    rw [hv0, (MapKept.heap_alloc _ _).2 _ (by simp; omega), (MapKept.heap_alloc _ _).2 _ (by simp), (MapKept.heap_alloc _ _).1])
  have HB0 : Hid (v0.heap[w.heap.size + 1]? = some (.cells (cells8 B) 112 (0, 0))) := Lib.hid (by
    rw [hv0, (MapKept.heap_alloc _ _).2 _ (by simp)]
    have h := (MapKept.heap_alloc (w.alloc (.cells (cells32 S) 26)) (.cells (cells8 B) 112)).1
    simp only [World.size_alloc] at h
    exact h)
  have HC0 : Hid (v0.heap[w.heap.size + 1 + 1]? = some (.cells (cells32 zeros8) 26 (0, 0))) := Lib.hid (by
    rw [hv0]
    have h := (MapKept.heap_alloc ((w.alloc (.cells (cells32 S) 26)).alloc (.cells (cells8 B) 112)) (.cells (cells32 zeros8) 26)).1
    simp only [World.size_alloc] at h
    exact h)
  have HG0 : Hid (Below w.heap.size w v0) := Lib.hid (by rw [hv0]; exact (((Below.refl _ w).alloc (Nat.le_refl _) _).alloc (by simp) _).alloc (by simp; omega) _)
  have HZ0 : Hid (v0.heap.size = w.heap.size + 1 + 1 + 1) := Lib.hid (by rw [hv0]; simp)
  have HBL : Hid ((((w.alloc (.cells (cells32 S) 26)).alloc (.cells (cells8 B) 112)).alloc (.cells (cells32 zeros8) 26)).heap[w.heap.size + 1]? = some (.cells (cells8 B) 112 (0, 0))) := Lib.hid (by rw [← hv0]; exact HB0.out)
  have HTab : Hid (Tab v0) := Lib.hid (hT.below HG0.out)
  clear hv0
  go_enter Tryd.func100, Tryd.ntmps100
  go_wp2_with (refine wpList_load_row rfl 112 (.tmp 3) rfl (w.heap.size + 1) rfl 112 (cells8 B) (0, 0) _ HBL.out Tryd.underlying112 rfl HSB.out ?_)
  refine (HSpread.out _).mono ?_
  rintro e w1 ⟨rfl, hb1'⟩
  have hb1 : Below v0.heap.size v0 w1 := by rw [HV0.out]; exact hb1'
  clear hb1'
  have z0 := HZ0.out
  have HA1 : Hid (w1.heap[w.heap.size]? = some (.cells (cells32 S) 26 (0, 0))) := Lib.hid ((hb1.block _ (by omega)).trans HA0.out)
  have HC1 : Hid (w1.heap[w.heap.size + 1 + 1]? = some (.cells (cells32 zeros8) 26 (0, 0))) := Lib.hid ((hb1.block _ (by omega)).trans HC0.out)
  have HG1 : Hid (Below w.heap.size w w1) := Lib.hid (HG0.out.trans (hb1.mono (by omega)))
  have HTab1 : Hid (Tab w1) := Lib.hid (HTab.out.below hb1)
  have HZ1 : Hid (w.heap.size + 1 + 1 + 1 ≤ w1.heap.size) := Lib.hid (by have := hb1.size; omega)
  clear hb1 z0 hT
  go_wp2_with (refine wpList_store_row rfl 141 (.tmp 5) (.tmp 21) rfl w1.heap.size (cells32 W) rfl rfl 141 (cells32 zeros64) ?hg HSW.out ?hold H1W.out ?_)
  case hg => exact (MapKept.heap_alloc w1 _).1
  case hold => exact HOW.out
  rw [World.setRow_alloc_new]
  obtain ⟨v2, hv2⟩ : ∃ v, v = w1.alloc (.cells (cells32 W) 141) := ⟨_, rfl⟩
  have HZ2 : Hid (v2.heap.size = w1.heap.size + 1) := Lib.hid (by rw [hv2]; simp)
  have z1 := HZ1.out
  have HA2 : Hid (v2.heap[w.heap.size]? = some (.cells (cells32 S) 26 (0, 0))) := Lib.hid (by rw [hv2, (MapKept.heap_alloc _ _).2 _ (by omega)]; exact HA1.out)
  have HC2 : Hid (v2.heap[w.heap.size + 1 + 1]? = some (.cells (cells32 zeros8) 26 (0, 0))) := Lib.hid (by rw [hv2, (MapKept.heap_alloc _ _).2 _ (by omega)]; exact HC1.out)
  have HD2 : Hid (v2.heap[w1.heap.size]? = some (.cells (cells32 W) 141 (0, 0))) := Lib.hid (by rw [hv2]; exact (MapKept.heap_alloc w1 _).1)
  have HG2 : Hid (Below w.heap.size w v2) := Lib.hid (by rw [hv2]; exact HG1.out.alloc HG1.out.size _)
  have HTab2 : Hid (Tab v2) := Lib.hid (by rw [hv2]; exact HTab1.out.alloc _)
  rw [← hv2]
  clear hv2 z1 HA1 HC1 HG1 HTab1
  obtain ⟨b, hb⟩ : ∃ b, b = w1.heap.size := ⟨_, rfl⟩
  have HBl : Hid (w.heap.size + 1 + 1 + 1 ≤ b) := Lib.hid (by rw [hb]; exact HZ1.out)
  rw [← hb] at HD2 HZ2 ⊢
  clear hb HZ1
  have cell : ∀ j, j < 8 → v2.cell? ⟨w.heap.size, j, none⟩ = some (.int .u32 (S.getD j 0)) := fun j hj => by rw [cell_of_heap HA2.out]; exact cells32_get S _ (by omega)
  obtain ⟨⟨p0, p1, p2, p3, p4, p5, p6, p7⟩, hs⟩ : ∃ s, r8 S = s := ⟨_, rfl⟩
  have hs' := hs
  unfold r8 at hs'
  simp only [R8.mk.injEq] at hs'
  obtain ⟨e0, e1, e2, e3, e4, e5, e6, e7⟩ := hs'
  have d0 := cell 0 (by decide)
  have d1 := cell 1 (by decide)
  have d2 := cell 2 (by decide)
  have d3 := cell 3 (by decide)
  have d4 := cell 4 (by decide)
  have d5 := cell 5 (by decide)
  have d6 := cell 6 (by decide)
  have d7 := cell 7 (by decide)
  rw [e0] at d0
  rw [e1] at d1
  rw [e2] at d2
  rw [e3] at d3
  rw [e4] at d4
  rw [e5] at d5
  rw [e6] at d6
  rw [e7] at d7
  rw [hs] at HR
  clear hs e0 e1 e2 e3 e4 e5 e6 e7
  have HLS := Lib.hid hS
  clear hS
  clear cell
  go_wp2_with fail
  go_quiet (fail)
  clear d0 d1 d2 d3 d4 d5 d6 d7
  go_wp2_with (refine wpList_load_row rfl 141 (.tmp 5) rfl b rfl 141 _ (0, 0) _ HD2.out Tryd.underlying141 rfl HSW.out ?_)
  have HStart : Hid (∃ (t : Nat) (s : R8), Value.int .i64 0 = .int .i64 t ∧ t ≤ 64 ∧ Value.int .u32 p0 = .int .u32 s.a ∧ Value.int .u32 p1 = .int .u32 s.b ∧ Value.int .u32 p2 = .int .u32 s.c ∧ Value.int .u32 p3 = .int .u32 s.d ∧ Value.int .u32 p4 = .int .u32 s.e ∧ Value.int .u32 p5 = .int .u32 s.f ∧ Value.int .u32 p6 = .int .u32 s.g ∧ Value.int .u32 p7 = .int .u32 s.h ∧
      Hid (foldR (kI.drop t) (W.drop t) s = foldR kI W ⟨p0, p1, p2, p3, p4, p5, p6, p7⟩) ∧ Hid (∃ n, v2.drewN nq = v2.drewN n)) := Lib.hid ⟨0, ⟨p0, p1, p2, p3, p4, p5, p6, p7⟩, rfl, by decide, rfl, rfl, rfl, rfl, rfl, rfl, rfl, rfl, Lib.hid rfl, Lib.hid ⟨nq, rfl⟩⟩
  go_loopw [6, 7, 8, 9, 10, 11, 12, 13, 39] (fun r0 r1 r2 r3 r4 r5 r6 r7 v wr => ∃ (t : Nat) (s : R8), v = .int .i64 t ∧ t ≤ 64 ∧ r0 = .int .u32 s.a ∧ r1 = .int .u32 s.b ∧ r2 = .int .u32 s.c ∧ r3 = .int .u32 s.d ∧ r4 = .int .u32 s.e ∧ r5 = .int .u32 s.f ∧ r6 = .int .u32 s.g ∧ r7 = .int .u32 s.h ∧
      Hid (foldR (kI.drop t) (W.drop t) s = foldR kI W ⟨p0, p1, p2, p3, p4, p5, p6, p7⟩) ∧ Hid (∃ n, wr = v2.drewN n)) (fun _ _ _ _ _ _ _ _ v _ => 64 - (RowKit.intOf v).toNat)
  case atStart => exact HStart.out
  case round =>
    clear HStart
    obtain ⟨t, ⟨a, b', c, d, e, f, g, h⟩, rfl, ht, rfl, rfl, rfl, rfl, rfl, rfl, rfl, rfl, hk, hw⟩ := hrel
    by_cases hlt : t < 64
    · have hix := fun w => index_words W HlW.out t (by rw [HlW.out]; exact hlt) w
      have htab : wr.cell? ⟨0, t, none⟩ = some (.int .u32 (kI.getD t 0)) := by
        obtain ⟨n, hn⟩ := hw.out
        rw [hn]
        exact HTab2.out t hlt
      obtain ⟨x, hx⟩ : ∃ x, W.getD t 0 = x := ⟨_, rfl⟩
      obtain ⟨k, hkk⟩ : ∃ k, kI.getD t 0 = k := ⟨_, rfl⟩
      rw [hkk] at htab
      simp only [hx] at hix
      have hd : decide ((t : Int) < 64) = true := decide_eq_true (by omega)
      have hti : (t : Int) < 64 := by omega
      have HK : Hid (foldR (kI.drop (t + 1)) (W.drop (t + 1)) (stepR k x ⟨a, b', c, d, e, f, g, h⟩) = foldR kI W ⟨p0, p1, p2, p3, p4, p5, p6, p7⟩) := Lib.hid (by
        rw [← hk.out, foldR_step kI W t (by exact hlt) (by rw [HlW.out]; exact hlt), hkk, hx])
      clear hx hkk hk
      go_wp2_with fail
      go_quiet ((go_at_call 104; exact Calls.quiet_of_same (turn_still _ _ (by decide) _)))
      go_wp2_with (go_at_call 104; refine (turn_int _ _ (by decide) _).mono ?_; rintro e w' ⟨rfl, rfl⟩)
      go_roundw
      case rel => exact ⟨t + 1, _, by go_num, hlt, rfl, rfl, rfl, rfl, rfl, rfl, rfl, rfl, HK, Lib.hid (by obtain ⟨n, hn⟩ := hw.out; exact ⟨n + nq, by rw [hn, World.drewN_drewN]⟩)⟩
      case measure => simp [RowKit.intOf]; omega
    · obtain rfl : t = 64 := by omega
      have hR : (⟨a, b', c, d, e, f, g, h⟩ : R8) = foldR kI W ⟨p0, p1, p2, p3, p4, p5, p6, p7⟩ := by
        have h := hk.out
        rw [List.drop_of_length_le (by decide)] at h
        exact h
      have HRR := Lib.hid hR
      clear hR hk hlt ht
      obtain ⟨R, hRl⟩ : ∃ R : List Int, R = [a, b', c, d, e, f, g, h] := ⟨_, rfl⟩
      have HRL : Hid (R.length = 8) := Lib.hid (by rw [hRl]; rfl)
      have HarrR : Hid ((#[.int .u32 a, .int .u32 b', .int .u32 c, .int .u32 d, .int .u32 e, .int .u32 f, .int .u32 g, .int .u32 h] : Array Value) = cells32 R) := Lib.hid (by rw [hRl]; rfl)
      have HFin : Hid (foldC R 0 S = F) := Lib.hid (by rw [HR.out, ← HRR.out, hRl]; rfl)
      clear hRl HR HRR HSpread HlW HSW H1W HOW
      obtain ⟨wq, hwq⟩ : ∃ wq : World, wq = wr := ⟨_, rfl⟩
      rw [← hwq] at hw ⊢
      have HA3 : Hid (wq.heap[w.heap.size]? = some (.cells (cells32 S) 26 (0, 0))) := Lib.hid (by obtain ⟨n, hn⟩ := hw.out; rw [hn]; exact HA2.out)
      have HC3 : Hid (wq.heap[w.heap.size + 1 + 1]? = some (.cells (cells32 zeros8) 26 (0, 0))) := Lib.hid (by obtain ⟨n, hn⟩ := hw.out; rw [hn]; exact HC2.out)
      have HG3 : Hid (Below w.heap.size w wq) := Lib.hid (by obtain ⟨n, hn⟩ := hw.out; rw [hn]; exact below_drawn n HG2.out)
      have HS2 : Hid (∃ (i : Nat) (L : List Int), Value.int .i64 0 = .int .i64 i ∧ i ≤ 8 ∧ Hid (foldC (R.drop i) i L = F) ∧ Hid (L.length = 8) ∧ Hid (wq.heap[w.heap.size]? = some (.cells (cells32 L) 26 (0, 0))) ∧
        Hid (wq.heap[w.heap.size + 1 + 1]? = some (.cells (cells32 zeros8) 26 (0, 0))) ∧ Hid (Below w.heap.size w wq)) := Lib.hid ⟨0, S, rfl, by decide, HFin, HLS, HA3, HC3, HG3⟩
      clear hwq hw HA2 HC2 HG2 HTab2 HD2 HA3 HC3 HG3 HFin HLS
      rw [show ((64 : Nat) : Int) = 64 from rfl]
      go_wp2_with fail
      rw [HarrR.out]
      go_loopw [110] (fun v wr => ∃ (i : Nat) (L : List Int), v = .int .i64 i ∧ i ≤ 8 ∧ Hid (foldC (R.drop i) i L = F) ∧ Hid (L.length = 8) ∧ Hid (wr.heap[w.heap.size]? = some (.cells (cells32 L) 26 (0, 0))) ∧
        Hid (wr.heap[w.heap.size + 1 + 1]? = some (.cells (cells32 zeros8) 26 (0, 0))) ∧ Hid (Below w.heap.size w wr)) (fun v _ => 8 - (RowKit.intOf v).toNat)
      case atStart => exact HS2.out
      case round =>
        clear HS2
        obtain ⟨i, L, rfl, hi, hk, hl, ha, hc, hg⟩ := hrel
        by_cases hlt : i < 8
        · have hix := fun w => index_eight R HRL.out i (by rw [HRL.out]; exact hlt) w
          obtain ⟨x, hx⟩ : ∃ x, R.getD i 0 = x := ⟨_, rfl⟩
          obtain ⟨y, hy⟩ : ∃ y, L.getD i 0 = y := ⟨_, rfl⟩
          simp only [hx] at hix
          have c1 : wr.cell? ⟨w.heap.size, i, none⟩ = some (.int .u32 y) := by rw [cell_of_heap ha.out, cells32_get L i (by rw [hl.out]; exact hlt), hy]
          have f1 : wr.frozen? ⟨w.heap.size, i, none⟩ = false := frozen_of_heap ha.out _
          have hd : decide ((i : Int) < 8) = true := decide_eq_true (by omega)
          have hti : (i : Int) < 8 := by omega
          have HK : Hid (foldC (R.drop (i + 1)) (i + 1) (L.set i ((y + x) % 4294967296)) = F) := Lib.hid (by
            rw [← hk.out, List.drop_eq_getElem_cons (i := i) (l := R) (by rw [HRL.out]; exact hlt)]
            show _ = foldC _ _ (L.set i (w32 (L.getD i 0 + _)))
            rw [hy, ← hx, List.getD_eq_getElem?_getD, List.getElem?_eq_getElem (by rw [HRL.out]; exact hlt)]
            rfl)
          have HL2 : Hid ((L.set i ((y + x) % 4294967296)).length = 8) := Lib.hid (by rw [List.length_set]; exact hl.out)
          have HA4 : Hid ((wr.setCell ⟨w.heap.size, i, none⟩ (.int .u32 ((y + x) % 4294967296))).heap[w.heap.size]? = some (.cells (cells32 (L.set i ((y + x) % 4294967296))) 26 (0, 0))) := Lib.hid (by
            rw [Go.Joins.block_setCell ha.out _, cells32_set])
          have HC4 : Hid ((wr.setCell ⟨w.heap.size, i, none⟩ (.int .u32 ((y + x) % 4294967296))).heap[w.heap.size + 1 + 1]? = some (.cells (cells32 zeros8) 26 (0, 0))) := Lib.hid (by
            rw [Below.heap_setCell _ _ _ _ (by simp only; omega)]
            exact hc.out)
          have HG4 : Hid (Below w.heap.size w (wr.setCell ⟨w.heap.size, i, none⟩ (.int .u32 ((y + x) % 4294967296)))) := Lib.hid (hg.out.setCell (by simp only; omega) _)
          clear hx hy hk ha hc hg hl
          go_wp2_with fail
          go_roundw
          case rel => exact ⟨i + 1, _, by go_num, hlt, HK, HL2, HA4, HC4, HG4⟩
          case measure => simp [RowKit.intOf]; omega
        · obtain rfl : i = 8 := by omega
          have hLF : L = F := by
            have h := hk.out
            rw [List.drop_of_length_le (by rw [HRL.out]; exact Nat.le_refl _)] at h
            exact h
          have hsX : (Tryd.prog.info? 26).map (·.size) = some (cells32 L).size := by rw [cells32_size, hl.out]; exact sizeState
          have HSX := Lib.hid hsX
          have H1X := Lib.hid (cells32_one L)
          have HOX : Hid ((cells32 zeros8).size = (cells32 L).size) := Lib.hid (by rw [cells32_size, cells32_size, hl.out]; rfl)
          have HXF := Lib.hid hLF
          have HV5 : Hid ((wr.setRow (w.heap.size + 1 + 1) (cells32 L)).heap[w.heap.size + 1 + 1]? = some (.cells (cells32 L) 26 (0, 0))) := Lib.hid (setRow_heap wr _ _ _ _ _ hc.out)
          have HG5 : Hid (Below w.heap.size w (wr.setRow (w.heap.size + 1 + 1) (cells32 L))) := Lib.hid (hg.out.trans ⟨rfl, rfl, rfl, by simp, fun k hk => setRow_other wr _ k _ (by have := hg.out.size; omega)⟩)
          clear hsX hLF hk hl hg hlt hi
          rw [show ((8 : Nat) : Int) = 8 from rfl]
          go_wp2_with (first
            | (refine wpList_load_row rfl 26 (.tmp 2) rfl w.heap.size rfl 26 _ (0, 0) _ ha.out Tryd.underlying26 rfl HSX.out ?_)
            | (refine wpList_store_row rfl 26 (.tmp 4) (.tmp 121) rfl (w.heap.size + 1 + 1) (cells32 L) rfl rfl 26 _ hc.out HSX.out HOX.out H1X.out ?_))
          exact bodyPost_ret (results_cell_row rfl _ _ (w.heap.size + 1 + 1) 26 (cells32 L) (0, 0) _ rfl HV5.out Tryd.underlying26 rfl HSX.out) rfl ⟨by rw [HXF.out], HG5.out⟩
end Go.Proofs.YtjjahcidncnogaaDoor
