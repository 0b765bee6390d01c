/- A hash is taken up: the contract of Resume. -/
import Derived.Test.YtjjahcidncnogaaDoorShaMid
import Derived.Test.YtjjahcidncnogaaDoorShaWrite
namespace Go.Proofs.YtjjahcidncnogaaDoor
open Go.RowKit Go.Lib

theorem blk_small (n : Nat) (h : n < 18446744073709551616) : blk (n : Int) 0 = (n : Int) := by unfold blk; omega

theorem built_res (x0 x1 x2 x3 x4 x5 x6 x7 bl d : Int) : ((((((((((Tryd.zeroCells114.setIfInBounds 0 (Value.int .u32 x0)).setIfInBounds 1 (Value.int .u32 x1)).setIfInBounds 2 (Value.int .u32 x2)).setIfInBounds 3 (Value.int .u32 x3)).setIfInBounds 4 (Value.int .u32 x4)).setIfInBounds 5 (Value.int .u32 x5)).setIfInBounds 6 (Value.int .u32 x6)).setIfInBounds 7 (Value.int .u32 x7)).setIfInBounds 8 (Value.int .u64 bl)).setIfInBounds 73 (Value.int .i64 d)) = (hcells [x0, x1, x2, x3, x4, x5, x6, x7] bl zeroB d).toArray := by kernel_rfl

set_option maxRecDepth 100000 in
set_option maxHeartbeats 4000000 in
theorem resume_any (st : List Int) (hs : st.length = 8) (bl : Nat) (hbl : bl < 36028797018963968) (q : Option Addr) (t : List UInt8) (ht : t.length < 64) (c : Nat) (w : World) (hB : Bytes w.heap.size w.heap.size q t w) :
    Calls Tryd.prog 70 #[midV st (bl : Int) (.slice q t.length c)] w fun e w' => e = .returned (.tuple #[.pointer (some ⟨w.heap.size + 1, 0, none⟩), .nilIface]) ∧ Took (w.heap.size + 1) st (bl : Int) t w' ∧ Below w.heap.size w w' := by
  obtain ⟨x0, x1, x2, x3, x4, x5, x6, x7, rfl⟩ := list8 st hs
  have HBy := Lib.hid hB
  have HSz : Hid ((Tryd.prog.info? 5).map (·.size) = some 1) := Lib.hid (by kernel_rfl)
  obtain ⟨d, hd⟩ : ∃ d, t.length = d := ⟨_, rfl⟩
  have HD := Lib.hid hd
  rw [hd] at ht ⊢
  have hd1 : decide ((64 : Int) ≤ (d : Int)) = false := decide_eq_false (by omega)
  have hd2 : decide ((36028797018963968 : Int) ≤ (bl : Int)) = false := decide_eq_false (by omega)
  have hdi : (d : Int) < 64 := by omega
  clear hB hd
  unfold midV
  go_enter Tryd.func70, Tryd.ntmps70
  go_wp2_with fail
  rw [built_res]
  obtain ⟨M, hM⟩ : ∃ M : Array Value, (List.map (Value.int .u32) [x0, x1, x2, x3, x4, x5, x6, x7] ++ [Value.int .u64 (bl : Int), Value.slice q d c]).toArray = M := ⟨_, rfl⟩
  have hM9 : M[9]? = some (.slice q d c) := by rw [← hM]; rfl
  rw [hM]
  obtain ⟨v, hv⟩ : ∃ v, v = (w.alloc (.cells M 34)).alloc (.cells (hcells [x0, x1, x2, x3, x4, x5, x6, x7] (bl : Int) zeroB (d : Int)).toArray 114) := ⟨_, rfl⟩
  have HH : Hid (v.heap[w.heap.size + 1]? = some (.cells (hcells [x0, x1, x2, x3, x4, x5, x6, x7] (bl : Int) zeroB (d : Int)).toArray 114 (0, 0))) := Lib.hid (by
    rw [hv]
    have h := (MapKept.heap_alloc (w.alloc (.cells M 34)) (.cells (hcells [x0, x1, x2, x3, x4, x5, x6, x7] (bl : Int) zeroB (d : Int)).toArray 114)).1
    simp only [World.size_alloc] at h
    exact h)
  have HHB : Hid (HB v (w.heap.size + 1) [x0, x1, x2, x3, x4, x5, x6, x7] (bl : Int) zeroB (d : Int)) := Lib.hid ⟨HH.out, rfl, rfl⟩
  have c9 : v.cell? ⟨w.heap.size, 9, none⟩ = some (.slice q d c) := by
    have h : v.heap[w.heap.size]? = some (.cells M 34 (0, 0)) := by
      rw [hv, (MapKept.heap_alloc _ _).2 _ (by simp), (MapKept.heap_alloc _ _).1]
    rw [cell_of_heap h, hM9]
  have HG : Hid (Below w.heap.size w v) := Lib.hid (by rw [hv]; exact ((Below.refl _ w).alloc (Nat.le_refl _) _).alloc (by simp) _)
  have HBv : Hid (Bytes w.heap.size w.heap.size q t v.drew) := Lib.hid (HBy.out.keep (below_drawn 1 HG.out))
  refine code_at (v := v) (by rw [hv, ← hM]; rfl) ?_
  clear hv hM9 hM
  refine region_tail 6 (by kernel_rfl) (by kernel_rfl) ?_
  simp only [List.take_succ_cons, List.take_zero, List.drop_succ_cons, List.drop_zero]
  repeat still_step
  refine wpStill_nil ?_
  clear c9
  go_wp2_with (refine wpList_copy_but rfl (.tmp 28) (.tmp 30) 28 28 rfl 5 Tryd.underlying28 HSz.out _ _ _ _ _ _ rfl rfl (w.heap.size + 1) 9 (hcells [x0, x1, x2, x3, x4, x5, x6, x7] (bl : Int) zeroB (d : Int)) 114 HH.out (byteCells t) ?kn ?kp ?kf (byteCells_one _) ?_)
  case kn => rw [bc_len, HD.out]; show _ = min d 64; omega
  case kp =>
    intro h
    rw [bc_len] at h
    have hs := bytes_src HBv.out _ h (Nat.le_refl _)
    rw [List.take_length] at hs
    first | exact hs | exact ⟨rfl, hs⟩
  case kf => rw [bc_len, HD.out, hcells_len rfl rfl]; omega
  intro w' HG' HBt
  have H1 := HHB.out.setRest 0 t (by rw [HD.out]; omega) (w' := w') HG'.out
  have HT1 : Hid (Took (w.heap.size + 1) [x0, x1, x2, x3, x4, x5, x6, x7] (bl : Int) t w') := Lib.hid (by
    have e0 : t.length / 64 = 0 := by rw [HD.out]; omega
    have e1 : t.length % 64 = t.length := by rw [HD.out]; omega
    refine ⟨splice zeroB 0 t, ?_, ?_⟩
    · rw [e0, e1, blk_small bl (by omega), HD.out]
      exact H1
    · rw [e0, e1]
      unfold splice
      simp only [List.take_zero, List.nil_append, Nat.mul_zero, List.drop_zero]
      exact List.take_left' rfl)
  have HGf : Hid (Below w.heap.size w w') := Lib.hid ((below_drawn 1 HG.out).trans (HBt.out.below (by omega) (by have := HG.out.size; exact this)))
  clear H1
  go_wp2_with fail
  go_ret2
  exact ⟨rfl, HT1.out, HGf.out⟩

/-- What is taken up from how a hash stands stands as it. -/
theorem took_mid {b : Nat} {st0 : List Int} {l : List UInt8} {w : World} (h : Took b (blocksI (l.length / 64) st0 l) ((l.length / 64 : Nat) : Int) (l.drop (64 * (l.length / 64))) w) (hl : l.length < 18446744073709551616) : Took b st0 0 l w := by
  obtain ⟨rest, hH, hr⟩ := h
  have e0 : (l.drop (64 * (l.length / 64))).length = l.length % 64 := by rw [List.length_drop]; omega
  rw [e0, show l.length % 64 / 64 = 0 from by omega, show l.length % 64 % 64 = l.length % 64 from by omega, blk_small _ (by omega)] at hH
  rw [e0, show l.length % 64 / 64 = 0 from by omega, show l.length % 64 % 64 = l.length % 64 from by omega, Nat.mul_zero, List.drop_zero] at hr
  refine ⟨rest, ?_, hr⟩
  have e1 : blk 0 (l.length / 64) = ((l.length / 64 : Nat) : Int) := by unfold blk; omega
  rw [e1]
  exact hH
theorem took_len {b : Nat} {l : List UInt8} {w : World} (h : Took b firstI 0 l w) (hl : l.length < 18446744073709551616) :
    Calls Tryd.prog 73 #[.pointer (some ⟨b, 0, none⟩)] w fun e w' => e = .returned (.int .u64 (l.length : Int)) ∧ ∃ n, w' = w.drewN n := by
  obtain ⟨rest, hH, _⟩ := h
  have k := len_any b _ _ rest _ w hH
  have e : (blk 0 (l.length / 64) * 64 + ((l.length % 64 : Nat) : Int)) % 18446744073709551616 = (l.length : Int) := by unfold blk; omega
  rw [e] at k
  exact k
/-- How a hash that took l stands. -/
theorem took_tells {b : Nat} {l : List UInt8} {w : World} (h : Took b firstI 0 l w) (hl : l.length < 18446744073709551616) :
    Calls Tryd.prog 71 #[.pointer (some ⟨b, 0, none⟩)] w fun e w' => ∃ v, e = .returned (midV (blocksI (l.length / 64) firstI l) ((l.length / 64 : Nat) : Int) v) ∧ w'.ownsRow (w.heap.size + 1) 5 1 v (l.length % 64) (byteCells (l.drop (64 * (l.length / 64)))) ∧ Below w.heap.size w w' := by
  obtain ⟨rest, hH, hr⟩ := h
  have k := mid_any b _ _ rest (l.length % 64) (by omega) w hH
  have e1 : blk 0 (l.length / 64) = ((l.length / 64 : Nat) : Int) := by unfold blk; omega
  rw [e1, hr] at k
  exact k
end Go.Proofs.YtjjahcidncnogaaDoor
