/- The contract of the reference's primes. -/
import Derived.Test.YtjjahcidncnogaaDoorRefC
namespace Go.Proofs.YtjjahcidncnogaaDoor
open Go.RowKit Go.Lib

def cells64 (L : List Nat) : Array Value := (L.map (fun (n : Nat) => Value.int .u64 (n : Int))).toArray
def zerosN : List Nat := List.replicate 64 0
def padN (L : List Nat) : List Nat := L ++ List.replicate (64 - L.length) 0
theorem cells64_one (L : List Nat) : (cells64 L).all (·.oneCell') = true := by
  rw [Array.all_eq_true_iff_forall_mem]
  intro x hx
  simp [cells64] at hx
  obtain ⟨y, _, rfl⟩ := hx
  rfl
theorem sizePrimes : (Tryd.prog.info? 121).map (·.size) = some 64 := by kernel_rfl
theorem cells64_size (L : List Nat) : (cells64 L).size = L.length := by simp [cells64]
theorem cells64_get (L : List Nat) (i : Nat) (h : i < L.length) : (cells64 L)[i]? = some (.int .u64 (L.getD i 0 : Nat)) := by
  unfold cells64
  rw [List.getElem?_toArray, List.getElem?_map, List.getElem?_eq_getElem h, List.getD_eq_getElem?_getD, List.getElem?_eq_getElem h]
  rfl
theorem cells64_set (L : List Nat) (i : Nat) (v : Nat) : (cells64 L).setIfInBounds i (.int .u64 (v : Int)) = cells64 (L.set i v) := by
  unfold cells64
  rw [List.setIfInBounds_toArray, List.map_set]
theorem padN_length (L : List Nat) (h : L.length ≤ 64) : (padN L).length = 64 := by unfold padN; rw [List.length_append, List.length_replicate]; omega
theorem padN_set (L : List Nat) (h : L.length < 64) (p : Nat) : (padN L).set L.length p = padN (L ++ [p]) := by
  unfold padN
  rw [List.set_append_right _ _ (Nat.le_refl _), Nat.sub_self, List.length_append, List.length_singleton, show 64 - L.length = (64 - (L.length + 1)) + 1 from by omega, List.replicate_succ, List.set_cons_zero, List.append_assoc]
  rfl
theorem trial_stop (p f d : Nat) (h : p < d * d) : trial p f d = true := by
  cases f with
  | zero => rfl
  | succ f => unfold trial; rw [if_neg (by omega)]
theorem trial_div (p f d : Nat) (hf : 0 < f) (h : d * d ≤ p) (hd : p % d = 0) : trial p f d = false := by
  obtain ⟨f, rfl⟩ : ∃ g, f = g + 1 := ⟨f - 1, by omega⟩
  unfold trial; rw [if_pos h, if_pos hd]
theorem trial_on (p f d : Nat) (hf : 0 < f) (h : d * d ≤ p) (hd : ¬ p % d = 0) : trial p f d = trial p (f - 1) (d + 1) := by
  obtain ⟨f, rfl⟩ : ∃ g, f = g + 1 := ⟨f - 1, by omega⟩
  rw [trial, if_pos h, if_neg hd]
  rfl
theorem small_sq (d p : Nat) (h : d * d ≤ p) (hp : p < 312) : d ≤ 17 := by
  rcases Nat.lt_or_ge 17 d with h' | h'
  · have := Nat.mul_le_mul (show 18 ≤ d from h') (show 18 ≤ d from h')
    omega
  · exact h'

set_option maxRecDepth 100000 in
set_option maxHeartbeats 8000000 in
theorem primes_any (w : World) : Calls Tryd.prog 79 #[] w fun e w' => e = .returned (.agg (cells64 primesL)) ∧ Below w.heap.size w w' := by
  obtain ⟨X, hX⟩ : ∃ X, cells64 primesL = X := ⟨_, rfl⟩
  have HX := Lib.hid hX
  rw [hX]
  clear hX
  obtain ⟨v0, hv0⟩ : ∃ v, v = (w.alloc (.cells (cells64 zerosN) 121)).alloc (.cells (cells64 zerosN) 121) := ⟨_, rfl⟩
  have HA0 : Hid (v0.heap[w.heap.size]? = some (.cells (cells64 zerosN) 121 (0, 0))) := Lib.hid (by
    rw [hv0, (MapKept.heap_alloc _ _).2 _ (by simp), (MapKept.heap_alloc _ _).1])
  have HB0 : Hid (v0.heap[w.heap.size + 1]? = some (.cells (cells64 zerosN) 121 (0, 0))) := Lib.hid (by
    rw [hv0]
    have h := (MapKept.heap_alloc (w.alloc (.cells (cells64 zerosN) 121)) (.cells (cells64 zerosN) 121)).1
    simp only [World.size_alloc] at h
    exact h)
  have HG0 : Hid (Below w.heap.size w v0) := Lib.hid (by rw [hv0]; exact ((Below.refl _ w).alloc (Nat.le_refl _) _).alloc (by simp) _)
  have HStart : Hid (∃ k : Nat, Value.int .i64 0 = .int .i64 ((primesTo k).length : Nat) ∧ Value.int .u64 2 = .int .u64 ((2 + k : Nat) : Int) ∧ k ≤ 310 ∧ Hid (v0.heap[w.heap.size + 1]? = some (.cells (cells64 (padN (primesTo k))) 121 (0, 0))) ∧
    Hid (v0.heap[w.heap.size]? = some (.cells (cells64 zerosN) 121 (0, 0))) ∧ Hid (Below w.heap.size w v0)) := Lib.hid ⟨0, rfl, rfl, by decide, HB0, HA0, HG0⟩
  rw [hv0] at HStart
  clear hv0 HA0 HB0 HG0
  go_enter Tryd.func79, Tryd.ntmps79
  go_wp2_with fail
  go_loopw [2, 3] (fun x v wr => ∃ k : Nat, x = .int .i64 ((primesTo k).length : Nat) ∧ v = .int .u64 ((2 + k : Nat) : Int) ∧ k ≤ 310 ∧ Hid (wr.heap[w.heap.size + 1]? = some (.cells (cells64 (padN (primesTo k))) 121 (0, 0))) ∧
    Hid (wr.heap[w.heap.size]? = some (.cells (cells64 zerosN) 121 (0, 0))) ∧ Hid (Below w.heap.size w wr)) (fun _ v _ => (312 - RowKit.intOf v).toNat)
  case atStart => exact HStart.out
  case round =>
    clear HStart
    obtain ⟨k, rfl, rfl, hk, hb, ha, hg⟩ := hrel
    obtain ⟨n, hn⟩ : ∃ n, (primesTo k).length = n := ⟨_, rfl⟩
    obtain ⟨p, hp⟩ : ∃ p, 2 + k = p := ⟨_, rfl⟩
    have HN := Lib.hid hn
    have HP := Lib.hid hp
    rw [hn, hp]
    by_cases hlt : k < 310
    · have hn64 : n < 64 := by rw [← hn]; exact primesTo_few k hlt
      have hd : decide ((n : Int) < 64) = true := decide_eq_true (by omega)
      have hni : (n : Int) < 64 := by omega
      have hpl : p < 312 := by omega
      have HPl := Lib.hid hpl
      have HK := Lib.hid hk
      have HLt := Lib.hid hlt
      have HS2 : Hid (∃ (d : Nat) (b : Bool), Value.bool true = .bool b ∧ Value.int .u64 2 = .int .u64 (d : Int) ∧ 2 ≤ d ∧ d ≤ 18 ∧ Hid (trial p 20 2 = (b && trial p (22 - d) d))) := Lib.hid ⟨2, true, rfl, rfl, by decide, by decide, Lib.hid (by simp)⟩
      have hwp : IntKind.u64.wrap ((p : Int) + 1) = (p : Int) + 1 := by rw [wrap64]; omega
      have EP : Hid (((2 + (k + 1) : Nat) : Int) = (p : Int) + 1) := Lib.hid (by omega)
      clear hn hp hpl hk hlt
      go_wp2_with fail
      go_loopw [4, 5] (fun x v wq => ∃ (d : Nat) (b : Bool), x = .bool b ∧ v = .int .u64 (d : Int) ∧ 2 ≤ d ∧ d ≤ 18 ∧ Hid (trial p 20 2 = (b && trial p (22 - d) d)) ∧ wq = wr) (fun _ v _ => (22 - RowKit.intOf v).toNat)
      case atStart =>
        obtain ⟨d, b, h1, h2, h3, h4, h5⟩ := HS2.out
        exact ⟨d, b, h1, h2, h3, h4, h5, rfl⟩
      case round =>
        clear HS2
        obtain ⟨d, b, rfl, rfl, hd2, hd18, ht, rfl⟩ := hrel
        obtain ⟨q, hq⟩ : ∃ q, d * d = q := ⟨_, rfl⟩
        have hq400 : q ≤ 324 := by rw [← hq]; exact Nat.mul_le_mul hd18 hd18
        have e1 : IntKind.u64.wrap ((d : Int) * (d : Int)) = (q : Int) := by
          have : (d : Int) * (d : Int) = (q : Int) := by rw [← hq]; simp
          rw [wrap64]
          omega
        by_cases hgo : q ≤ p
        · have h17 := small_sq d p (by rw [hq]; exact hgo) HPl.out
          have dq : decide ((q : Int) ≤ (p : Int)) = true := decide_eq_true (by omega)
          have iq : (q : Int) ≤ (p : Int) := by omega
          rcases b with _ | _
          · have HT : Hid (trial p 20 2 = false) := Lib.hid (by rw [ht.out]; rfl)
            clear ht hq h17
            have HNot : Hid (primesTo (k + 1) = primesTo k) := Lib.hid (by rw [primesTo_step, HP.out, HT.out]; rfl)
            have HN2 : Hid ((primesTo (k + 1)).length = n) := Lib.hid (by rw [HNot.out]; exact HN.out)
            go_wp2_with fail
            go_roundw
            case rel => exact ⟨k + 1, by rw [HN2.out], by rw [EP.out], HLt.out, by rw [HNot.out]; exact hb, ha, hg⟩
            case measure => have := HPl.out; simp [RowKit.intOf]; omega
          · have hdn : ¬ (d : Int) = 0 := by omega
            obtain ⟨r, hr⟩ : ∃ r, p % d = r := ⟨_, rfl⟩
            have er : (p : Int) % (d : Int) = (r : Int) := by rw [← hr]; simp
            have et : (p : Int).tmod (d : Int) = (r : Int) := by rw [Int.tmod_eq_emod_of_nonneg (by omega), er]
            by_cases hr0 : r = 0
            · subst hr0
              have HT : Hid (trial p 20 2 = (false && trial p (22 - (d + 1)) (d + 1))) := Lib.hid (by
                rw [ht.out, trial_div p (22 - d) d (by omega) (by rw [hq]; exact hgo) hr]; rfl)
              clear ht hq hr
              go_wp2_with fail
              go_roundw
              case rel => exact ⟨d + 1, false, by simp, by go_num, by omega, by omega, HT, by first | rfl | trivial⟩
              case measure => simp [RowKit.intOf]; omega
            · have HT : Hid (trial p 20 2 = (true && trial p (22 - (d + 1)) (d + 1))) := Lib.hid (by
                rw [ht.out, trial_on p (22 - d) d (by omega) (by rw [hq]; exact hgo) (by rw [hr]; exact hr0)]; rfl)
              have hr1 : ¬ (r : Int) = 0 := by omega
              clear ht hq hr
              go_wp2_with fail
              go_roundw
              case rel => exact ⟨d + 1, true, by simp [hr0], by go_num, by omega, by omega, HT, by first | rfl | trivial⟩
              case measure => simp [RowKit.intOf]; omega
        · have dq : decide ((q : Int) ≤ (p : Int)) = false := decide_eq_false (by omega)
          have iq : ¬ (q : Int) ≤ (p : Int) := by omega
          have HT : Hid (trial p 20 2 = b) := Lib.hid (by rw [ht.out, trial_stop p (22 - d) d (by rw [hq]; omega), Bool.and_true])
          clear ht hq
          cases b
          · have HNot : Hid (primesTo (k + 1) = primesTo k) := Lib.hid (by rw [primesTo_step, HP.out, HT.out]; rfl)
            have HN2 : Hid ((primesTo (k + 1)).length = n) := Lib.hid (by rw [HNot.out]; exact HN.out)
            go_wp2_with fail
            go_roundw
            case rel => exact ⟨k + 1, by rw [HN2.out], by rw [EP.out], HLt.out, by rw [HNot.out]; exact hb, ha, hg⟩
            case measure => have := HPl.out; simp [RowKit.intOf]; omega
          · have HYes : Hid (primesTo (k + 1) = primesTo k ++ [p]) := Lib.hid (by rw [primesTo_step, HP.out, HT.out]; rfl)
            have HN2 : Hid ((primesTo (k + 1)).length = n + 1) := Lib.hid (by rw [HYes.out, List.length_append, HN.out]; rfl)
            obtain ⟨y, hy⟩ : ∃ y : Nat, (padN (primesTo k)).getD n 0 = y := ⟨_, rfl⟩
            have c1 : wr.cell? ⟨w.heap.size + 1, n, none⟩ = some (.int .u64 (y : Int)) := by
              rw [cell_of_heap hb.out, cells64_get _ _ (by rw [padN_length _ (by rw [HN.out]; omega)]; exact hn64), hy]
            have f1 : wr.frozen? ⟨w.heap.size + 1, n, none⟩ = false := frozen_of_heap hb.out _
            have HB2 : Hid ((wr.setCell ⟨w.heap.size + 1, n, none⟩ (.int .u64 (p : Int))).heap[w.heap.size + 1]? = some (.cells (cells64 (padN (primesTo (k + 1)))) 121 (0, 0))) := Lib.hid (by
              rw [Go.Joins.block_setCell hb.out _, cells64_set, HYes.out, ← padN_set _ (by rw [HN.out]; exact hn64), HN.out])
            have HA2 : Hid ((wr.setCell ⟨w.heap.size + 1, n, none⟩ (.int .u64 (p : Int))).heap[w.heap.size]? = some (.cells (cells64 zerosN) 121 (0, 0))) := Lib.hid (by
              rw [Below.heap_setCell _ _ _ _ (by simp only; omega)]
              exact ha.out)
            have HG2 : Hid (Below w.heap.size w (wr.setCell ⟨w.heap.size + 1, n, none⟩ (.int .u64 (p : Int)))) := Lib.hid (hg.out.setCell (by simp only; omega) _)
            clear hb ha hg hy
            go_wp2_with fail
            go_roundw
            case rel => exact ⟨k + 1, by rw [HN2.out]; go_num, by rw [EP.out], HLt.out, HB2, HA2, HG2⟩
            case measure => have := HPl.out; simp [RowKit.intOf]; omega
    · obtain rfl : k = 310 := by omega
      have hn64 : n = 64 := by rw [← hn, primesTo_all]; rfl
      subst hn64
      have HB2 : Hid (wr.heap[w.heap.size + 1]? = some (.cells (cells64 primesL) 121 (0, 0))) := Lib.hid (by rw [hb.out, primesTo_all]; rfl)
      have hsX : (Tryd.prog.info? 121).map (·.size) = some (cells64 primesL).size := by rw [cells64_size]; exact sizePrimes
      have HSX := Lib.hid hsX
      have H1X := Lib.hid (cells64_one primesL)
      have HOX : Hid ((cells64 zerosN).size = (cells64 primesL).size) := Lib.hid (by rw [cells64_size, cells64_size]; rfl)
      rw [HX.out] at HSX H1X HOX HB2
      have HV : Hid ((wr.setRow w.heap.size X).heap[w.heap.size]? = some (.cells X 121 (0, 0))) := Lib.hid (setRow_heap wr _ _ _ _ _ ha.out)
      have HG5 : Hid (Below w.heap.size w (wr.setRow w.heap.size X)) := Lib.hid (hg.out.trans ⟨rfl, rfl, rfl, by simp, fun j hj => setRow_other wr _ j _ (by have := hg.out.size; omega)⟩)
      clear hsX hn hp hb hg hk hlt HN HP
      rw [show ((64 : Nat) : Int) = 64 from rfl]
      go_wp2_with (first
        | (refine wpList_load_row rfl 121 (.tmp 1) rfl (w.heap.size + 1) rfl 121 _ (0, 0) _ HB2.out Tryd.underlying121 rfl HSX.out ?_)
        | (refine wpList_store_row rfl 121 (.tmp 0) (.tmp 30) rfl w.heap.size X rfl rfl 121 _ ha.out HSX.out HOX.out H1X.out ?_))
      exact bodyPost_ret (results_cell_row rfl _ _ w.heap.size 121 X (0, 0) _ rfl HV.out Tryd.underlying121 rfl HSX.out) rfl ⟨rfl, HG5.out⟩
end Go.Proofs.YtjjahcidncnogaaDoor
