/- hmac: how a Mac lies; masked, take: contracts. -/
import Derived.Test.YtjjahcidncnogaaDoorShaWrite
import Derived.Laws.BitsAllLaws
import Derived.Deep.MidRow
namespace Go.Proofs.YtjjahcidncnogaaDoor
open Go.ChangeShapes Go.WideShapes Go.ChangeAt Go.RowKit Go.Lib

/-- A Mac: its hash, and its key's block. -/
def macC (B : Nat) (k : List UInt8) : List Value := .pointer (some ⟨B, 0, none⟩) :: byteCells k
structure MB (w : World) (M B : Nat) (k : List UInt8) : Prop where
  heap : w.heap[M]? = some (.cells (macC B k).toArray 128 (0, 0))
  len : k.length = 64
theorem MB.lt {w : World} {M B : Nat} {k : List UInt8} (h : MB w M B k) : M < w.heap.size := (Array.getElem?_eq_some_iff.1 h.heap).1
theorem MB.keep {w w' : World} {b M B : Nat} {k : List UInt8} (h : MB w M B k) (hb : Below b w w') (hlt : M < b) : MB w' M B k := ⟨(hb.block M hlt).trans h.heap, h.len⟩
theorem MB.hash {w : World} {M B : Nat} {k : List UInt8} (h : MB w M B k) : w.cell? ⟨M, 0, none⟩ = some (.pointer (some ⟨B, 0, none⟩)) := by rw [cell_of_heap h.heap]; rfl
theorem MB.block {w : World} {M B : Nat} {k : List UInt8} (h : MB w M B k) : w.rangeAt M 1 (byteCells k) := fun j v hv => by
  rw [cell_of_heap h.heap, List.getElem?_toArray, Nat.add_comm]
  exact hv
/-- The first i bytes xored with x. -/
def xorTo (x : UInt8) (k : List UInt8) (i : Nat) : List UInt8 := (k.take i).map (· ^^^ x) ++ k.drop i
def mask (x : UInt8) (k : List UInt8) : List UInt8 := k.map (· ^^^ x)
theorem xorTo_length (x : UInt8) (k : List UInt8) (i : Nat) : (xorTo x k i).length = k.length := by
  unfold xorTo
  rw [List.length_append, List.length_map, List.length_take, List.length_drop]
  omega
theorem xorTo_get (x : UInt8) (k : List UInt8) (i : Nat) (h : i < k.length) : (xorTo x k i).getD i 0 = k.getD i 0 := by
  unfold xorTo
  rw [List.getD_eq_getElem?_getD, List.getElem?_append_right (by rw [List.length_map, List.length_take]; omega), List.length_map, List.length_take, Nat.min_eq_left (by omega), Nat.sub_self, List.getElem?_drop, Nat.add_zero, ← List.getD_eq_getElem?_getD]
theorem xorTo_step (x : UInt8) (k : List UInt8) (i : Nat) (h : i < k.length) : (xorTo x k i).set i (k.getD i 0 ^^^ x) = xorTo x k (i + 1) := by
  unfold xorTo
  have hl : ((k.take i).map (· ^^^ x)).length = i := by rw [List.length_map, List.length_take]; omega
  rw [List.set_append_right _ _ (by omega), hl, Nat.sub_self, List.drop_eq_getElem_cons h, List.set_cons_zero, List.take_succ_eq_append_getElem h, List.map_append, List.append_assoc, List.getD_eq_getElem?_getD, List.getElem?_eq_getElem h]
  rfl
theorem xorTo_all (x : UInt8) (k : List UInt8) (n : Nat) (h : k.length = n) : xorTo x k n = mask x k := by
  unfold xorTo mask
  rw [← h, List.take_length, List.drop_length, List.append_nil]
theorem xor_val (z x : UInt8) : bits .xor .u8 (z.toNat : Int) (x.toNat : Int) = ((z ^^^ x).toNat : Int) := by
  have h := u8_xor_nat z.toNat x.toNat z.toNat_lt x.toNat_lt
  rw [UInt8.toNat_xor]
  exact h
theorem bc_get (L : List UInt8) (i : Nat) (h : i < L.length) : (byteCells L).toArray[i]? = some (.int .u8 ((L.getD i 0).toNat : Nat)) := by
  unfold byteCells
  rw [List.getElem?_toArray, List.getElem?_map, List.getElem?_eq_getElem h, List.getD_eq_getElem?_getD, List.getElem?_eq_getElem h]
  rfl
theorem slice_all64 (g : Nat) (w : World) : (Instr.sliceAt 112 (.pointer (some ⟨g, 0, none⟩)) none none none).run Tryd.prog w = .ok (.slice (some ⟨g, 0, none⟩) 64 64) w := by
  rw [run_sliceAt_array_all w 112 ⟨g, 0, none⟩ arrBlockD, elemBlock w, lenBlock]
  simp only [Result.andThen, slicedAt, Nat.sub_zero]
  rw [if_neg (by decide)]
  simp [Addr.add]

set_option maxRecDepth 100000 in
set_option maxHeartbeats 4000000 in
theorem masked_any (M B : Nat) (k : List UInt8) (x : UInt8) (w : World) (hM : MB w M B k) :
    Calls Tryd.prog 83 #[.pointer (some ⟨M, 0, none⟩), .int .u8 (x.toNat : Nat)] w fun e w' => ∃ g, e = .returned (.slice (some ⟨g, 0, none⟩) 64 64) ∧ w.heap.size ≤ g ∧ w'.heap[g]? = some (.cells (byteCells (mask x k)).toArray 112 (0, 0)) ∧ Below w.heap.size w w' := by
  have hR := hM.block
  have hsB : (Tryd.prog.info? 112).map (·.size) = some (byteCells k).length := by rw [bc_len, hM.len]; exact sizeBlock
  have hsB' : (Tryd.prog.info? 112).map (·.size) = some (byteCells k).toArray.size := by rw [List.size_toArray]; exact hsB
  have HRl := Lib.hid hR
  have HSB := Lib.hid hsB
  have HSB' := Lib.hid hsB'
  have H1 := Lib.hid (dig_one k)
  have HO : Hid ((byteCells zeroB).toArray.size = (byteCells k).toArray.size) := Lib.hid (by rw [List.size_toArray, List.size_toArray, bc_len, bc_len, hM.len]; rfl)
  have HL := Lib.hid hM.len
  have HSl := Lib.hid slice_all64
  clear hR hsB hsB'
  obtain ⟨v, hv⟩ : ∃ v, v = w.alloc (.cells (byteCells k).toArray 112) := ⟨_, rfl⟩
  have HV := Lib.hid hv
  have HS : Hid (∃ i : Nat, Value.int .i64 0 = .int .i64 (i : Int) ∧ i ≤ 64 ∧ Hid (v.heap[w.heap.size]? = some (.cells (byteCells (xorTo x k i)).toArray 112 (0, 0))) ∧ Hid (Below w.heap.size w v)) := Lib.hid
    ⟨0, rfl, by decide, Lib.hid (by rw [hv]; exact (MapKept.heap_alloc _ _).1), Lib.hid (by rw [hv]; exact (Below.refl _ w).alloc (Nat.le_refl _) _)⟩
  clear hv hM
  go_enter Tryd.func83, Tryd.ntmps83
  go_wp2_with (first
    | (refine wpList_load_mid rfl 112 (.tmp 9) rfl M 1 rfl (byteCells k) _ HRl.out Tryd.underlying112 rfl HSB.out ?_)
    | (refine wpList_store_row rfl 112 (.tmp 5) (.tmp 10) rfl w.heap.size (byteCells k).toArray rfl rfl 112 (byteCells zeroB).toArray ?hg HSB'.out HO.out H1.out ?_))
  case hg => exact (MapKept.heap_alloc w _).1
  rw [World.setRow_alloc_new, ← HV.out]
  clear HV
  go_loopw [11] (fun u wr => ∃ i : Nat, u = .int .i64 (i : Int) ∧ i ≤ 64 ∧ Hid (wr.heap[w.heap.size]? = some (.cells (byteCells (xorTo x k i)).toArray 112 (0, 0))) ∧ Hid (Below w.heap.size w wr)) (fun u _ => 64 - (RowKit.intOf u).toNat)
  case atStart => exact HS.out
  case round =>
    clear HS
    obtain ⟨i, rfl, hi, hh, hg⟩ := hrel
    by_cases hlt : i < 64
    · have c1 : wr.cell? ⟨w.heap.size, i, none⟩ = some (.int .u8 (((xorTo x k i).getD i 0).toNat : Nat)) := by
        rw [cell_of_heap hh.out]
        exact bc_get _ i (by rw [xorTo_length, HL.out]; exact hlt)
      have f1 : wr.frozen? ⟨w.heap.size, i, none⟩ = false := frozen_of_heap hh.out _
      have e2 := xorTo_get x k i (by rw [HL.out]; exact hlt)
      have e3 := xorTo_step x k i (by rw [HL.out]; exact hlt)
      rw [e2] at c1
      obtain ⟨z, hz⟩ : ∃ z, k.getD i 0 = z := ⟨_, rfl⟩
      rw [hz] at c1 e3
      have hx1 := xor_val z x
      have HH : Hid ((wr.setCell ⟨w.heap.size, i, none⟩ (.int .u8 ((z ^^^ x).toNat : Nat))).heap[w.heap.size]? = some (.cells (byteCells (xorTo x k (i + 1))).toArray 112 (0, 0))) := Lib.hid (by
        rw [Go.Joins.block_setCell hh.out _, List.setIfInBounds_toArray, ← e3]
        unfold byteCells
        rw [List.map_set])
      have HG : Hid (Below w.heap.size w (wr.setCell ⟨w.heap.size, i, none⟩ (.int .u8 ((z ^^^ x).toNat : Nat)))) := Lib.hid (hg.out.setCell (by simp only; omega) _)
      obtain ⟨y, hy⟩ : ∃ y : Nat, (z ^^^ x).toNat = y := ⟨_, rfl⟩
      obtain ⟨u, hu⟩ : ∃ u : Nat, z.toNat = u := ⟨_, rfl⟩
      obtain ⟨x', hx'⟩ : ∃ u : Nat, x.toNat = u := ⟨_, rfl⟩
      rw [hy] at hx1 HH HG
      rw [hu] at hx1 c1
      have hd : decide ((i : Int) < 64) = true := decide_eq_true (by omega)
      have hti : (i : Int) < 64 := by omega
      clear e2 e3 hz hy hu hh hg
      rw [hx'] at hx1
      go_wp2_with fail
      go_roundw
      case rel => exact ⟨i + 1, by go_num, hlt, HH, HG⟩
      case measure => simp [RowKit.intOf]; omega
    · obtain rfl : i = 64 := by omega
      have HH : Hid (wr.heap[w.heap.size]? = some (.cells (byteCells (mask x k)).toArray 112 (0, 0))) := Lib.hid (by rw [← xorTo_all x k 64 HL.out]; exact hh.out)
      have hsl := HSl.out w.heap.size
      have HG := hg
      clear hh hg hlt hi
      rw [show ((64 : Nat) : Int) = 64 from rfl]
      go_wp2_with fail
      go_ret
      exact ⟨w.heap.size, rfl, Nat.le_refl _, HH.out, HG.out⟩

set_option maxRecDepth 100000 in
set_option maxHeartbeats 4000000 in
theorem inTake_any (B : Nat) (l : List UInt8) (p : Option Addr) (N cap : Nat) (hN : N ≤ 140737488351232) (P : Nat → Option Addr) (C : Nat → Nat) (L : Nat → List UInt8) (w : World) (hT : Tab w) (hH : Took B firstI 0 l w) (hP : PartsK w.heap.size B p N P C L w)
    (hfit : l.length + (cat L N).length < 2305843009213693952) :
    Calls Tryd.prog 82 #[.agg #[.pointer (some ⟨B, 0, none⟩)], .slice p N cap] w fun e w' => e = .returned (.tuple #[]) ∧ Took B firstI 0 (l ++ cat L N) w' ∧ But w.heap.size B w w' := by
  obtain ⟨v, hv⟩ : ∃ v, v = w.alloc (.cells #[.pointer (some ⟨B, 0, none⟩)] 126) := ⟨_, rfl⟩
  have hg : Below w.heap.size w v := by rw [hv]; exact (Below.refl _ w).alloc (Nat.le_refl _) _
  have hz : v.heap.size = w.heap.size + 1 := by rw [hv]; simp
  have hP2 : PartsK v.heap.size B p N P C L v := by
    have h1 := hP.but (But.of (K := B) hg)
    refine ⟨fun hN => ?_, fun i hi => ?_⟩
    · obtain ⟨pb, off, hp, h2, h3, h4⟩ := h1.1 hN
      exact ⟨pb, off, hp, by omega, h3, h4⟩
    · obtain ⟨h2, h3, h4⟩ := h1.2 i hi
      refine ⟨fun hne => ?_, h3, h4⟩
      obtain ⟨pb, off, hp, h5, h6, h7⟩ := h2 hne
      exact ⟨pb, off, hp, by omega, h6, h7⟩
  have HWrite := Lib.hid (write_ok B firstI 0 l p N cap hN P C L v (hT.below hg) (hH.keep hg hH.lt) hP2 (by omega))
  have HG := Lib.hid hg
  have HV := Lib.hid hv
  have HZ := Lib.hid hz
  clear hT hH hP hP2 hg hz hv
  go_enter Tryd.func82, Tryd.ntmps82
  go_wp2_with fail
  refine calls_at HV.out.symm ?_
  refine HWrite.out.mono ?_
  rintro e w2 ⟨rfl, hTk, hb⟩
  go_wp2_with fail
  go_returns
  exact ⟨rfl, hTk, (But.of (K := B) HG.out).trans (hb.mono (by have := HZ.out; omega))⟩
end Go.Proofs.YtjjahcidncnogaaDoor
