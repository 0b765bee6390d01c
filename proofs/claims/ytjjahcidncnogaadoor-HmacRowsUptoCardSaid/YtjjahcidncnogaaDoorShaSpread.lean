/- Plain: a block's words, as sha's spread reckons them; its contract. -/
import Derived.Test.YtjjahcidncnogaaDoorShaTurn
import Derived.BigQuiet
import Derived.Deep.QuietTactic
import Derived.LoopTactic
import Derived.Deep.WholeRow
import Derived.Lib.FrozenHead2
import Derived.Lib.SmallJoins
import Derived.StillTailTactics
namespace Go.Proofs.YtjjahcidncnogaaDoor
open Go.RowKit Go.Lib

theorem turn_int (x k : Int) (hk : k = 6 ∨ k = 11 ∨ k = 25 ∨ k = 2 ∨ k = 13 ∨ k = 22 ∨ k = 7 ∨ k = 18 ∨ k = 17 ∨ k = 19) (w : World) :
    Calls Tryd.prog 104 #[.int .u32 x, .int .u64 k] w fun e w' => e = .returned (.int .u32 (turnI x k.toNat)) ∧ w = w' := by
  have h := turn_any x k.toNat (by omega) w
  have e : ((k.toNat : Nat) : Int) = k := by omega
  rw [e] at h
  exact h

theorem turn_still (x k : Int) (hk : k = 6 ∨ k = 11 ∨ k = 25 ∨ k = 2 ∨ k = 13 ∨ k = 22 ∨ k = 7 ∨ k = 18 ∨ k = 17 ∨ k = 19) (w : World) :
    Calls Tryd.prog 104 #[.int .u32 x, .int .u64 k] w fun e w' => e = .returned (.int .u32 (turnI x k.toNat)) ∧ w' = w :=
  (turn_int x k hk w).mono fun _ _ ⟨he, hw⟩ => ⟨he, hw.symm⟩

def w32 (x : Int) : Int := x % 4294967296
/-- A region whose last operation is forced: reads, quiet calls, and then the last. -/
theorem region_tail {P : Program} {id : Nat} {Q : Exit → Act → World → Prop} {a : Act} {w : World} {l : List Oper} (n : Nat) (hm : P.follows .mixedOrders = true) (hB : Region.lexTailB .any l.toArray n = true)
    (h : wpStill P l.toArray w.drew (fun a' => wpList P l.toArray Q (l.drop n) a' w.drew) (l.take n) a) : (Code.region id l.toArray true).wp P Q a w :=
  wp_region_still_tail n hm hB h

/-- A block's byte into its word. -/
def stepA (L : List Int) (i : Nat) (x : Int) : List Int := L.set (i / 4) (bits .or .u32 (w32 (L.getD (i / 4) 0 * 256)) x)
def foldA : List Int → Nat → List Int → List Int
  | [], _, L => L
  | x :: t, i, L => foldA t (i + 1) (stepA L i x)
def sig0 (x : Int) : Int := bits .xor .u32 (bits .xor .u32 (turnI x 7) (turnI x 18)) (x / 8)
def sig1 (x : Int) : Int := bits .xor .u32 (bits .xor .u32 (turnI x 17) (turnI x 19)) (x / 1024)
/-- One word more. -/
def stepB (L : List Int) (t : Nat) : List Int :=
  L.set t (w32 (w32 (w32 (L.getD (t - 16) 0 + L.getD (t - 7) 0) + sig0 (L.getD (t - 15) 0)) + sig1 (L.getD (t - 2) 0)))
def foldB : Nat → Nat → List Int → List Int
  | 0, _, L => L
  | n + 1, t, L => foldB n (t + 1) (stepB L t)
def zeros64 : List Int := List.replicate 64 0
/-- A block's words. -/
def spreadI (B : List Int) : List Int := foldB 48 16 (foldA B 0 zeros64)

/-- Numbers of 32 bits. -/
def Is32 (L : List Int) : Prop := ∀ x ∈ L, 0 ≤ x ∧ x < 4294967296
def cells32 (L : List Int) : Array Value := (L.map (Value.int .u32)).toArray
def cells8 (L : List Int) : Array Value := (L.map (Value.int .u8)).toArray

theorem is32_get {L : List Int} (h : Is32 L) (i : Nat) : 0 ≤ L.getD i 0 ∧ L.getD i 0 < 4294967296 := by
  rw [List.getD_eq_getElem?_getD]
  rcases Nat.lt_or_ge i L.length with hi | hi
  · rw [List.getElem?_eq_getElem hi]
    exact h _ (List.getElem_mem _)
  · rw [List.getElem?_eq_none hi]
    exact ⟨by decide, by decide⟩
theorem is32_set {L : List Int} (h : Is32 L) (i : Nat) (v : Int) (hv : 0 ≤ v ∧ v < 4294967296) : Is32 (L.set i v) := fun x hx => by
  rcases List.mem_or_eq_of_mem_set hx with h' | rfl
  · exact h x h'
  · exact hv
theorem bits_u32_range (op : BinOp) (a b : Int) : 0 ≤ bits op .u32 a b ∧ bits op .u32 a b < 4294967296 := by
  have h : ∀ n : Int, IntKind.u32.wrap n = n % 4294967296 := fun n => rfl
  unfold bits
  simp only [h]
  omega
theorem w32_range (x : Int) : 0 ≤ w32 x ∧ w32 x < 4294967296 := by unfold w32; omega
theorem cells32_get (L : List Int) (i : Nat) (h : i < L.length) : (cells32 L)[i]? = some (.int .u32 (L.getD i 0)) := by
  unfold cells32
  rw [List.getElem?_toArray, List.getElem?_map, List.getElem?_eq_getElem h, List.getD_eq_getElem?_getD, List.getElem?_eq_getElem h]
  rfl
theorem cells32_set (L : List Int) (i : Nat) (v : Int) : (cells32 L).setIfInBounds i (.int .u32 v) = cells32 (L.set i v) := by
  unfold cells32
  rw [List.setIfInBounds_toArray, List.map_set]

theorem below_drawn {B : Nat} {a b : World} (n : Nat) (h : Below B a b) : Below B a (b.drewN n) := ⟨h.os, h.tape, h.output, h.size, h.block⟩
theorem cells32_one (L : List Int) : (cells32 L).all (·.oneCell') = true := by
  rw [Array.all_eq_true_iff_forall_mem]
  intro x hx
  simp [cells32] at hx
  obtain ⟨y, _, rfl⟩ := hx
  rfl
theorem sizeBlock : (Tryd.prog.info? 112).map (·.size) = some 64 := by kernel_rfl
theorem sizeWords : (Tryd.prog.info? 141).map (·.size) = some 64 := by kernel_rfl
theorem cells8_size (B : List Int) : (cells8 B).size = B.length := by simp [cells8]
theorem cells32_size (L : List Int) : (cells32 L).size = L.length := by simp [cells32]
theorem cells8_get (B : List Int) (i : Nat) (h : i < B.length) : (cells8 B)[i]? = some (.int .u8 B[i]) := by
  unfold cells8
  rw [List.getElem?_toArray, List.getElem?_map, List.getElem?_eq_getElem h]
  rfl

theorem index_block (B : List Int) (hB : B.length = 64) (i : Nat) (h : i < B.length) (w : World) : (Instr.index 112 (.agg (cells8 B)) (.int .i64 (i : Int))).run Tryd.prog w = .ok (.int .u8 B[i]) w := by
  have hc := cells8_get B i h
  have h1 : (i : Int) < 64 := by omega
  have h0 : (0 : Int) ≤ (i : Int) := by omega
  simp [Instr.index, asIntOf, run_underlying Tryd.underlying112, h0, Tryd.sizeOf5, Go.part, isAgg, run_underlying Tryd.underlying5, hc]
  intro hh
  omega

set_option maxRecDepth 100000 in
set_option maxHeartbeats 4000000 in
theorem spread_any (B : List Int) (hB : B.length = 64) (h8 : ∀ x ∈ B, 0 ≤ x ∧ x < 256) (w : World) :
    Calls Tryd.prog 103 #[.agg (cells8 B)] w fun e w' => e = .returned (.agg (cells32 (spreadI B))) ∧ Below w.heap.size w w' := by
  have hsB : (Tryd.prog.info? 112).map (·.size) = some (cells8 B).size := by rw [cells8_size, hB]; exact sizeBlock
  have HSB := Lib.hid hsB
  have h9 : (((w.alloc (.cells (cells8 B) 112)).alloc (.cells (cells32 zeros64) 141)).alloc (.cells (cells32 zeros64) 141)).heap[w.heap.size]? = some (.cells (cells8 B) 112 (0, 0)) := by
    rw [(MapKept.heap_alloc _ _).2 _ (by simp; omega), (MapKept.heap_alloc _ _).2 _ (by simp), (MapKept.heap_alloc _ _).1]
  have H9 := Lib.hid h9
  have HStart : Hid (∃ (i : Nat) (L : List Int), Value.int .i64 0 = .int .i64 i ∧ i ≤ 64 ∧ Hid (foldA (B.drop i) i L = foldA B 0 zeros64) ∧ L.length = 64 ∧ Hid (Is32 L) ∧
    Hid ((((w.alloc (.cells (cells8 B) 112)).alloc (.cells (cells32 zeros64) 141)).alloc (.cells (cells32 zeros64) 141)).heap[w.heap.size + 1 + 1]? = some (.cells (cells32 L) 141 (0, 0))) ∧
    Hid ((((w.alloc (.cells (cells8 B) 112)).alloc (.cells (cells32 zeros64) 141)).alloc (.cells (cells32 zeros64) 141)).heap[w.heap.size + 1]? = some (.cells (cells32 zeros64) 141 (0, 0))) ∧
    Hid (Below w.heap.size w (((w.alloc (.cells (cells8 B) 112)).alloc (.cells (cells32 zeros64) 141)).alloc (.cells (cells32 zeros64) 141)))) := Lib.hid (by
    refine ⟨0, zeros64, rfl, by omega, Lib.hid rfl, rfl, Lib.hid ?_, Lib.hid ?_, Lib.hid ?_, Lib.hid ?_⟩
    · intro x hx
      have : x = 0 := by unfold zeros64 at hx; exact List.eq_of_mem_replicate hx
      omega
    · have h := (MapKept.heap_alloc ((w.alloc (.cells (cells8 B) 112)).alloc (.cells (cells32 zeros64) 141)) (.cells (cells32 zeros64) 141)).1
      simp only [World.size_alloc] at h
      exact h
    · rw [(MapKept.heap_alloc _ _).2 _ (by simp)]
      have h := (MapKept.heap_alloc (w.alloc (.cells (cells8 B) 112)) (.cells (cells32 zeros64) 141)).1
      simp only [World.size_alloc] at h
      exact h
    · exact (((Below.refl _ w).alloc (Nat.le_refl _) _).alloc (by simp) _).alloc (by simp; omega) _)
  clear hsB h9
  go_enter Tryd.func103, Tryd.ntmps103
  go_wp2_with (refine wpList_load_row rfl 112 (.tmp 1) rfl w.heap.size rfl 112 (cells8 B) (0, 0) _ H9.out Tryd.underlying112 rfl HSB.out ?_)
  go_loopw [10] (fun v wr => ∃ (i : Nat) (L : List Int), v = .int .i64 i ∧ i ≤ 64 ∧ Hid (foldA (B.drop i) i L = foldA B 0 zeros64) ∧ L.length = 64 ∧ Hid (Is32 L) ∧
    Hid (wr.heap[w.heap.size + 1 + 1]? = some (.cells (cells32 L) 141 (0, 0))) ∧ Hid (wr.heap[w.heap.size + 1]? = some (.cells (cells32 zeros64) 141 (0, 0))) ∧ Hid (Below w.heap.size w wr)) (fun v _ => 64 - (RowKit.intOf v).toNat)
  case atStart => exact HStart.out
  case round =>
    obtain ⟨i, L, rfl, hi, hk, hl, h32, hb3, hb2, hbw⟩ := hrel
    by_cases hlt : i < 64
    · have hiB : i < B.length := by omega
      have hix := index_block B hB i hiB wr
      have hd : decide ((i : Int) < 64) = true := decide_eq_true (by omega)
      have hx8 := h8 B[i] (List.getElem_mem _)
      obtain ⟨x, hxx⟩ : ∃ x, B[i] = x := ⟨_, rfl⟩
      rw [hxx] at hix hx8
      have hi4 : i / 4 < 64 := by omega
      have c1 : wr.cell? ⟨w.heap.size + 1 + 1, i / 4, none⟩ = some (.int .u32 (L.getD (i / 4) 0)) := by rw [cell_of_heap hb3.out]; exact cells32_get L _ (by omega)
      have f1 : wr.frozen? ⟨w.heap.size + 1 + 1, i / 4, none⟩ = false := frozen_of_heap hb3.out _
      obtain ⟨q, hq⟩ : ∃ q, i / 4 = q := ⟨_, rfl⟩
      have HQ := Lib.hid hq
      have hqi : ((i : Int) / 4) = (q : Int) := by omega
      rw [hq] at c1 f1 hi4
      clear hq
      obtain ⟨y, hy⟩ : ∃ y, L.getD q 0 = y := ⟨_, rfl⟩
      have hst : stepA L i x = L.set q (bits .or .u32 (y * 256 % 4294967296) x) := by unfold stepA w32; rw [HQ.out, hy]
      have hk2 : foldA (B.drop (i + 1)) (i + 1) (L.set q (bits .or .u32 (y * 256 % 4294967296) x)) = foldA B 0 zeros64 := by
        have h := hk.out
        rw [List.drop_eq_getElem_cons hiB, hxx] at h
        rw [← hst]
        exact h
      have HK2 := Lib.hid hk2
      have H32 : Hid (Is32 (L.set q (bits .or .u32 (y * 256 % 4294967296) x))) := Lib.hid (is32_set h32.out _ _ (bits_u32_range _ _ _))
      have HR3 : Hid (((wr.setCell ⟨w.heap.size + 1 + 1, q, none⟩ (.int .u32 (y * 256 % 4294967296))).setCell ⟨w.heap.size + 1 + 1, q, none⟩ (.int .u32 (bits .or .u32 (y * 256 % 4294967296) x))).heap[w.heap.size + 1 + 1]? = some (.cells (cells32 (L.set q (bits .or .u32 (y * 256 % 4294967296) x))) 141 (0, 0))) := Lib.hid (by
        rw [Go.Joins.block_setCell (Go.Joins.block_setCell hb3.out _) _, cells32_set, cells32_set, List.set_set])
      have HR2 : Hid (((wr.setCell ⟨w.heap.size + 1 + 1, q, none⟩ (.int .u32 (y * 256 % 4294967296))).setCell ⟨w.heap.size + 1 + 1, q, none⟩ (.int .u32 (bits .or .u32 (y * 256 % 4294967296) x))).heap[w.heap.size + 1]? = some (.cells (cells32 zeros64) 141 (0, 0))) := Lib.hid (by
        rw [Below.heap_setCell _ _ _ _ (by simp only; omega), Below.heap_setCell _ _ _ _ (by simp only; omega)]
        exact hb2.out)
      have HBW := Lib.hid ((hbw.out.setCell (p := ⟨w.heap.size + 1 + 1, q, none⟩) (by simp only; omega) (.int .u32 (y * 256 % 4294967296))).setCell (p := ⟨w.heap.size + 1 + 1, q, none⟩) (by simp only; omega) (.int .u32 (bits .or .u32 (y * 256 % 4294967296) x)))
      have hl2 : (L.set q (bits .or .u32 (y * 256 % 4294967296) x)).length = 64 := by rw [List.length_set]; exact hl
      have HL2 := Lib.hid hl2
      rw [hy] at c1
      clear hst hk2 hl2 hy
      go_wp2_with fail
      go_roundw
      case rel => exact ⟨i + 1, _, by go_num, hlt, HK2, HL2.out, H32, HR3, HR2, HBW⟩
      case measure => simp [RowKit.intOf]; omega
    · obtain rfl : i = 64 := by omega
      have hkL : L = foldA B 0 zeros64 := by
        have h := hk.out
        rw [List.drop_of_length_le (by omega)] at h
        exact h
      have HKL := Lib.hid hkL
      clear hk hkL hlt hi
      have H2 : Hid (∃ (t : Nat) (M : List Int), Value.int .i64 16 = .int .i64 t ∧ 16 ≤ t ∧ t ≤ 64 ∧ Hid (foldB (64 - t) t M = foldB 48 16 L) ∧ M.length = 64 ∧ Hid (Is32 M) ∧
          Hid (wr.heap[w.heap.size + 1 + 1]? = some (.cells (cells32 M) 141 (0, 0))) ∧ Hid (wr.heap[w.heap.size + 1]? = some (.cells (cells32 zeros64) 141 (0, 0))) ∧ Hid (Below w.heap.size w wr)) :=
        Lib.hid ⟨16, L, rfl, Nat.le_refl _, by omega, Lib.hid rfl, hl, h32, hb3, hb2, hbw⟩
      obtain ⟨wq, hwq⟩ : ∃ wq : World, wq = wr := ⟨_, rfl⟩
      rw [← hwq] at H2 ⊢
      clear hl h32 hb3 hb2 hbw hwq
      rw [show ((64 : Nat) : Int) = 64 from rfl]
      go_wp2_with fail
      go_loopw [6] (fun v wr => ∃ (t : Nat) (M : List Int), v = .int .i64 t ∧ 16 ≤ t ∧ t ≤ 64 ∧ Hid (foldB (64 - t) t M = foldB 48 16 L) ∧ M.length = 64 ∧ Hid (Is32 M) ∧
          Hid (wr.heap[w.heap.size + 1 + 1]? = some (.cells (cells32 M) 141 (0, 0))) ∧ Hid (wr.heap[w.heap.size + 1]? = some (.cells (cells32 zeros64) 141 (0, 0))) ∧ Hid (Below w.heap.size w wr)) (fun v _ => 64 - (RowKit.intOf v).toNat)
      case atStart => exact H2.out
      case round =>
        obtain ⟨t, M, rfl, ht, ht2, hk, hl, h32, hb3, hb2, hbw⟩ := hrel
        by_cases hlt : t < 64
        · obtain ⟨a, ha⟩ : ∃ a, t = a + 16 := ⟨t - 16, by omega⟩
          subst ha
          have cell : ∀ j, j < 64 → wr.cell? ⟨w.heap.size + 1 + 1, j, none⟩ = some (.int .u32 (M.getD j 0)) := fun j hj => by rw [cell_of_heap hb3.out]; exact cells32_get M _ (by omega)
          have f1 : wr.frozen? ⟨w.heap.size + 1 + 1, a + 16, none⟩ = false := frozen_of_heap hb3.out _
          have d1 := cell (a + 1) (by omega)
          have d2 := cell (a + 14) (by omega)
          have d3 := cell a (by omega)
          have d4 := cell (a + 9) (by omega)
          have d5 := cell (a + 16) (by omega)
          have hd : decide ((a : Int) + 16 < 64) = true := decide_eq_true (by omega)
          have r1 := is32_get h32.out (a + 1)
          have r2 := is32_get h32.out (a + 14)
          obtain ⟨y1, hy1⟩ : ∃ y, M.getD (a + 1) 0 = y := ⟨_, rfl⟩
          obtain ⟨y2, hy2⟩ : ∃ y, M.getD (a + 14) 0 = y := ⟨_, rfl⟩
          obtain ⟨y3, hy3⟩ : ∃ y, M.getD a 0 = y := ⟨_, rfl⟩
          obtain ⟨y4, hy4⟩ : ∃ y, M.getD (a + 9) 0 = y := ⟨_, rfl⟩
          obtain ⟨y5, hy5⟩ : ∃ y, M.getD (a + 16) 0 = y := ⟨_, rfl⟩
          have HY := Lib.hid (And.intro hy1 (And.intro hy2 (And.intro hy3 (And.intro hy4 hy5))))
          rw [hy1] at d1 r1
          rw [hy2] at d2 r2
          rw [hy3] at d3
          rw [hy4] at d4
          rw [hy5] at d5
          have x1 : ((a + 16 : Nat) : Int) - 15 = ((a + 1 : Nat) : Int) := by omega
          have x2 : ((a + 16 : Nat) : Int) - 2 = ((a + 14 : Nat) : Int) := by omega
          have x3 : ((a + 16 : Nat) : Int) - 16 = ((a : Nat) : Int) := by omega
          have x4 : ((a + 16 : Nat) : Int) - 7 = ((a + 9 : Nat) : Int) := by omega
          clear cell hy1 hy2 hy3 hy4 hy5
          go_wp2_with fail
          go_quiet (fail)
          go_wp2_with fail
          go_region
          have c16 : ((wr.drewN (nq + 1)).setCell ⟨w.heap.size + 1 + 1, a + 16, none⟩ (.int .u32 ((y3 + y4) % 4294967296))).cell? ⟨w.heap.size + 1 + 1, a + 16, none⟩ = some (.int .u32 ((y3 + y4) % 4294967296)) :=
            World.cell?_setCell_same' _ _ _ (by show (wr.cell? _).isSome = true; rw [d5]; rfl)
          have f16 : ((wr.drewN (nq + 1)).setCell ⟨w.heap.size + 1 + 1, a + 16, none⟩ (.int .u32 ((y3 + y4) % 4294967296))).frozen? ⟨w.heap.size + 1 + 1, a + 16, none⟩ = false := by
            rw [World.frozen?_setCell]; exact f1
          obtain ⟨v, hv⟩ : ∃ v, v = (wr.drewN (nq + 1)).setCell ⟨w.heap.size + 1 + 1, a + 16, none⟩ (.int .u32 ((y3 + y4) % 4294967296)) := ⟨_, rfl⟩
          have HV := Lib.hid hv
          obtain ⟨z1, hz1⟩ : ∃ z, (y3 + y4) % 4294967296 = z := ⟨_, rfl⟩
          have HZ1 := Lib.hid hz1
          rw [← hv] at c16 f16 ⊢
          rw [hz1] at c16
          clear hv hz1 d1 d2 d3 d4 d5 f1
          have hbd : (a : Int) + 16 < 64 := by omega
          have hbd2 : a + 16 < 64 := by omega
          have hnn : (0 : Int) ≤ (a : Int) + 16 := by omega
          have hto : ((a : Int) + 16).toNat = a + 16 := by omega
          go_wp2_with fail
          refine region_tail 13 (by kernel_rfl) (by kernel_rfl) ?_
          simp only [List.take_succ_cons, List.take_zero, List.drop_succ_cons, List.drop_zero]
          repeat (first | still_step | still_call (turn_still _ _ (by decide) _))
          refine wpStill_nil ?_
          go_wp2_with fail
          have HRa : Hid (v.heap[w.heap.size + 1 + 1]? = some (.cells (cells32 (M.set (a + 16) z1)) 141 (0, 0))) := Lib.hid (by
            have hx : (wr.drewN (nq + 1)).heap[w.heap.size + 1 + 1]? = some (.cells (cells32 M) 141 (0, 0)) := hb3.out
            rw [HV.out, HZ1.out, Go.Joins.block_setCell hx _, cells32_set])
          have HQa : Hid (v.heap[w.heap.size + 1]? = some (.cells (cells32 zeros64) 141 (0, 0))) := Lib.hid (by
            rw [HV.out, Below.heap_setCell _ _ _ _ (by simp only; omega)]
            exact hb2.out)
          have HBa : Hid (Below w.heap.size w v) := Lib.hid (by
            rw [HV.out]
            exact ((below_drawn _ hbw.out)).setCell (by simp only; omega) _)
          obtain ⟨z2, hz2⟩ : ∃ z, (z1 + bits .xor .u32 (bits .xor .u32 (turnI y1 7) (turnI y1 18)) (y1 / 8)) % 4294967296 = z := ⟨_, rfl⟩
          have HZ2 := Lib.hid hz2
          rw [hz2]
          obtain ⟨v2, hv2⟩ : ∃ v2, v2 = (v.setCell ⟨w.heap.size + 1 + 1, a + 16, none⟩ (.int .u32 z2)).drew := ⟨_, rfl⟩
          have HRb : Hid (v2.heap[w.heap.size + 1 + 1]? = some (.cells (cells32 (M.set (a + 16) z2)) 141 (0, 0))) := Lib.hid (by
            rw [hv2]
            show (v.setCell _ _).heap[w.heap.size + 1 + 1]? = _
            rw [Go.Joins.block_setCell HRa.out _, cells32_set, List.set_set])
          have HQb : Hid (v2.heap[w.heap.size + 1]? = some (.cells (cells32 zeros64) 141 (0, 0))) := Lib.hid (by
            rw [hv2]
            show (v.setCell _ _).heap[w.heap.size + 1]? = _
            rw [Below.heap_setCell _ _ _ _ (by simp only; omega)]
            exact HQa.out)
          have HBb : Hid (Below w.heap.size w v2) := Lib.hid (by
            rw [hv2]
            exact below_drawn 1 (HBa.out.setCell (by simp only; omega) _))
          rw [← hv2]
          clear hv2 hz2 c16 f16
          have c17 : v2.cell? ⟨w.heap.size + 1 + 1, a + 16, none⟩ = some (.int .u32 z2) := by
            rw [cell_of_heap HRb.out, cells32_get _ _ (by rw [List.length_set]; omega), List.getD_eq_getElem?_getD, List.getElem?_set_self (by omega)]
            rfl
          have f17 : v2.frozen? ⟨w.heap.size + 1 + 1, a + 16, none⟩ = false := frozen_of_heap HRb.out _
          refine region_tail 13 (by kernel_rfl) (by kernel_rfl) ?_
          simp only [List.take_succ_cons, List.take_zero, List.drop_succ_cons, List.drop_zero]
          repeat (first | still_step | still_call (turn_still _ _ (by decide) _))
          refine wpStill_nil ?_
          go_wp2_with fail
          obtain ⟨z3, hz3⟩ : ∃ z, (z2 + bits .xor .u32 (bits .xor .u32 (turnI y2 17) (turnI y2 19)) (y2 / 1024)) % 4294967296 = z := ⟨_, rfl⟩
          have HZ3 := Lib.hid hz3
          have HZr : Hid (0 ≤ z3 ∧ z3 < 4294967296) := Lib.hid (by rw [← hz3]; omega)
          rw [hz3]
          obtain ⟨v3, hv3⟩ : ∃ v3, v3 = (v2.setCell ⟨w.heap.size + 1 + 1, a + 16, none⟩ (.int .u32 z3)).drew := ⟨_, rfl⟩
          have HRc : Hid (v3.heap[w.heap.size + 1 + 1]? = some (.cells (cells32 (M.set (a + 16) z3)) 141 (0, 0))) := Lib.hid (by
            rw [hv3]
            show (v2.setCell _ _).heap[w.heap.size + 1 + 1]? = _
            rw [Go.Joins.block_setCell HRb.out _, cells32_set, List.set_set])
          have HQc : Hid (v3.heap[w.heap.size + 1]? = some (.cells (cells32 zeros64) 141 (0, 0))) := Lib.hid (by
            rw [hv3]
            show (v2.setCell _ _).heap[w.heap.size + 1]? = _
            rw [Below.heap_setCell _ _ _ _ (by simp only; omega)]
            exact HQb.out)
          have HBc : Hid (Below w.heap.size w v3) := Lib.hid (by
            rw [hv3]
            exact below_drawn 1 (HBb.out.setCell (by simp only; omega) _))
          rw [← hv3]
          clear hv3 hz3 c17 f17
          have HK : Hid (foldB (64 - (a + 16 + 1)) (a + 16 + 1) (M.set (a + 16) z3) = foldB 48 16 L) := Lib.hid (by
            rw [← hk.out, show 64 - (a + 16) = 64 - (a + 16 + 1) + 1 from by omega]
            show _ = foldB (64 - (a + 16 + 1)) (a + 16 + 1) (stepB M (a + 16))
            congr 1
            unfold stepB sig0 sig1 w32
            obtain ⟨e1, e2, e3, e4, e5⟩ := HY.out
            rw [show a + 16 - 16 = a from by omega, show a + 16 - 7 = a + 9 from by omega, show a + 16 - 15 = a + 1 from by omega, show a + 16 - 2 = a + 14 from by omega, e1, e2, e3, e4, HZ1.out, HZ2.out, HZ3.out])
          have HLn : Hid ((M.set (a + 16) z3).length = 64) := Lib.hid (by rw [List.length_set]; exact hl)
          have H3 : Hid (Is32 (M.set (a + 16) z3)) := Lib.hid (is32_set h32.out _ _ HZr.out)
          go_wp2_with fail
          go_roundw
          case rel => exact ⟨a + 16 + 1, _, by go_num, by omega, by omega, HK, HLn.out, H3, HRc, HQc, HBc⟩
          case measure => simp [RowKit.intOf]; omega
        · obtain rfl : t = 64 := by omega
          have hfin : M = spreadI B := by
            have h := hk.out
            show M = foldB 48 16 (foldA B 0 zeros64)
            rw [← HKL.out, ← h]
            rfl
          have hsW : (Tryd.prog.info? 141).map (·.size) = some (cells32 M).size := by rw [cells32_size, hl]; exact sizeWords
          have h1W : (cells32 M).all (·.oneCell') = true := cells32_one _
          have hos : (cells32 zeros64).size = (cells32 M).size := by rw [cells32_size, cells32_size, hl]; rfl
          have hxe : cells32 M = cells32 (spreadI B) := by rw [hfin]
          have hb3' := hb3.out
          obtain ⟨X, hX⟩ : ∃ X, cells32 M = X := ⟨_, rfl⟩
          rw [hX] at hsW h1W hos hxe hb3'
          have HSW := Lib.hid hsW
          have H1W := Lib.hid h1W
          have HOS := Lib.hid hos
          have HX := Lib.hid hxe
          have HB3 := Lib.hid hb3'
          have HV2 : Hid ((wr.setRow (w.heap.size + 1) X).heap[w.heap.size + 1]? = some (.cells X 141 (0, 0))) := Lib.hid (setRow_heap wr _ _ _ _ _ hb2.out)
          have HG : Hid (Below w.heap.size w (wr.setRow (w.heap.size + 1) X)) := Lib.hid (hbw.out.trans ⟨rfl, rfl, rfl, by simp, fun k hk => setRow_other wr _ k _ (by have := hbw.out.size; omega)⟩)
          clear hsW h1W hos hxe hb3' hX hfin hlt ht ht2 hk hl h32 hb3 hbw
          rw [show ((64 : Nat) : Int) = 64 from rfl]
          go_wp2_with (first
            | (refine wpList_load_row rfl 141 (.tmp 3) rfl (w.heap.size + 1 + 1) rfl 141 _ (0, 0) _ HB3.out Tryd.underlying141 rfl HSW.out ?_)
            | (refine wpList_store_row rfl 141 (.tmp 2) (.tmp 78) rfl (w.heap.size + 1) X rfl rfl 141 _ hb2.out HSW.out HOS.out H1W.out ?_))
          exact bodyPost_ret (results_cell_row rfl _ _ (w.heap.size + 1) 141 X (0, 0) _ rfl HV2.out Tryd.underlying141 rfl HSW.out) rfl ⟨by rw [HX.out], HG.out⟩
end Go.Proofs.YtjjahcidncnogaaDoor
