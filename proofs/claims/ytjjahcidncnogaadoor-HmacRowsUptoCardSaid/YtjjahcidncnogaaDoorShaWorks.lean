/- What affidavitlaw02 asks of abc. -/
import Derived.Test.YtjjahcidncnogaaDoorShaSums0
import Derived.ChangeKeysEq
import Derived.Lib.SlBytesConst
namespace Go.Proofs.YtjjahcidncnogaaDoor
open Go.RowKit Go.Lib

def abcL : List UInt8 := [186, 120, 22, 191, 143, 1, 207, 234, 65, 65, 64, 222, 93, 174, 34, 35, 176, 3, 97, 163, 150, 23, 122, 156, 180, 16, 255, 97, 242, 0, 21, 173]
theorem sha_abc : shaL [97, 98, 99] = abcL := by decide +kernel
theorem items_same (D : List UInt8) (d : Nat) (w : World) : ∀ is : List Nat, (∀ i ∈ is, i < D.length) → (Op.eqItems (d + 1) 5 1 (byteCells D).toArray (byteCells D).toArray is).run Tryd.prog w = .ok true w := by
  intro is
  induction is with
  | nil => intro _; simp [Op.eqItems]
  | cons i is ih =>
    intro h
    have hi := h i List.mem_cons_self
    have hp : (Go.part 5 (byteCells D).toArray (i * 1)).run Tryd.prog w = .ok (.int .u8 D[i].toNat) w := by
      have hc : (byteCells D).toArray[i]? = some (.int .u8 D[i].toNat) := by simp [byteCells, List.getElem?_eq_getElem hi]
      simp [Go.part, isAgg, run_underlying Tryd.underlying5, hc]
    have he := run_equalIn_int (P := Tryd.prog) w d 5 .u8 .u8 D[i].toNat D[i].toNat Tryd.underlying5
    simp only [Op.eqItems, Sem.run_bind, hp, Result.andThen_ok, he, beq_self_eq_true, Bool.not_true, Bool.false_eq_true, if_false]
    exact ih fun j hj => h j (List.mem_cons_of_mem _ hj)

theorem dig_same (D : List UInt8) (hD : D.length = 32) (w : World) : (Op.equalIn 10000 48 (dig D) (dig D)).run Tryd.prog w = .ok true w := by
  obtain ⟨i0, hi, hz0, hz1, hz2⟩ := info_parts infoByte
  unfold dig
  rw [run_equalIn_array w 9999 _ _ (Tryd.underlying48) hi, show Tryd.prog.cellsOf 5 = 1 by kernel_rfl]
  exact items_same D 9998 w _ fun i hi => by have := List.mem_range.1 hi; omega


set_option maxRecDepth 100000 in
theorem abc_any (w : World) : Calls Tryd.prog 76 #[] w fun e w' => e = .returned (dig abcL) ∧ Below w.heap.size w w' := by
  have HSS := Lib.hid (dig_size abcL rfl)
  have e0 := World.setRow_alloc_new w (byteCells zero32).toArray (byteCells abcL).toArray 48
  have HE := Lib.hid e0
  clear e0
  go_enter Tryd.func76, Tryd.ntmps76
  go_wp2_with (refine wpList_store_row rfl 48 (.tmp 0) (.tmp 1) rfl w.heap.size (byteCells abcL).toArray rfl rfl 48 (byteCells zero32).toArray ?hg HSS.out rfl (dig_one _) ?_)
  case hg => exact (MapKept.heap_alloc w _).1
  have HG : Below w.heap.size w (w.alloc (.cells (byteCells abcL).toArray 48)) := (Below.refl _ w).alloc (Nat.le_refl _) _
  have HV : (w.alloc (.cells (byteCells abcL).toArray 48)).heap[w.heap.size]? = some (.cells (byteCells abcL).toArray 48 (0, 0)) := (MapKept.heap_alloc w _).1
  rw [← HE.out] at HG HV
  exact bodyPost_ret (results_cell_row rfl _ _ w.heap.size 48 (byteCells abcL).toArray (0, 0) _ rfl HV Tryd.underlying48 rfl HSS.out) rfl ⟨rfl, HG⟩

/-- One part alone, in a block of its own. -/
theorem parts_one {w : World} {g b : Nat} {p : Option Addr} {l : List UInt8} {c : Nat} (hc : w.cell? ⟨g, 0, none⟩ = some (.slice p l.length c)) (hg : g < b) (hB : Bytes b b p l w) (hl : l.length ≤ c) (hm : l.length ≤ 140737488351232) :
    Parts b (some ⟨g, 0, none⟩) 1 (fun _ => p) (fun _ => c) (fun _ => l) w :=
  ⟨fun _ => ⟨g, 0, rfl, hg, fun i hi => by obtain rfl : i = 0 := by omega
                                           exact hc⟩, fun _ _ => ⟨hB, hl, hm⟩⟩
theorem cat_one (l : List UInt8) : cat (fun _ => l) 1 = l := rfl

set_option maxRecDepth 100000 in
set_option maxHeartbeats 1000000 in
theorem works_any (w : World) (hT : Tab w) : Calls Tryd.prog 21 #[] w fun e w' => e = .returned (.bool true) ∧ Below w.heap.size w w' := by
  have HT := Lib.hid hT
  have HA := Lib.hid (fun w => abc_any w)
  have HS := Lib.hid (fun p N cap hN P C L w hT hP => sums_any p N cap hN P C L w hT hP)
  have HEq := Lib.hid (fun w => dig_same abcL rfl w)
  have kc := fun (w : World) (C : Array Value) (n c : Nat) => Lib.run_convert_bytes_const (P := Tryd.prog) w 28 5 C n c Tryd.underlying28 Tryd.underlying5
  clear hT
  go_enter Tryd.func21, Tryd.ntmps21
  go_wp2_with fail
  have g2 : Below w.heap.size w ((w.alloc (.cells #[.int .u8 97, .int .u8 98, .int .u8 99] 5 (3, 4))).alloc (.cells #[.slice (some ⟨w.heap.size, 0, none⟩) 3 3] 28)) := by go_grown
  have hP : Parts ((w.alloc (.cells #[.int .u8 97, .int .u8 98, .int .u8 99] 5 (3, 4))).alloc (.cells #[.slice (some ⟨w.heap.size, 0, none⟩) 3 3] 28)).heap.size (some ⟨w.heap.size + 1, 0, none⟩) 1 (fun _ => some ⟨w.heap.size, 0, none⟩) (fun _ => 3) (fun _ => [97, 98, 99]) ((w.alloc (.cells #[.int .u8 97, .int .u8 98, .int .u8 99] 5 (3, 4))).alloc (.cells #[.slice (some ⟨w.heap.size, 0, none⟩) 3 3] 28)) := by
    refine parts_one ?_ (by simp) ?_ (by decide) (by decide)
    · have h := (MapKept.heap_alloc (w.alloc (.cells #[.int .u8 97, .int .u8 98, .int .u8 99] 5 (3, 4))) (.cells #[.slice (some ⟨w.heap.size, 0, none⟩) 3 3] 28)).1
      simp only [World.size_alloc] at h
      rw [cell_of_heap h]
      rfl
    · intro _
      refine ⟨w.heap.size, 0, rfl, by simp; omega, by simp; omega, fun j hj => ?_⟩
      have h : ((w.alloc (.cells #[.int .u8 97, .int .u8 98, .int .u8 99] 5 (3, 4))).alloc (.cells #[.slice (some ⟨w.heap.size, 0, none⟩) 3 3] 28)).heap[w.heap.size]? = some (.cells #[.int .u8 97, .int .u8 98, .int .u8 99] 5 (3, 4)) := by
        rw [(MapKept.heap_alloc _ _).2 _ (by simp), (MapKept.heap_alloc _ _).1]
      rw [cell_of_heap h, Nat.zero_add]
      have hj3 : j < 3 := hj
      obtain rfl | rfl | rfl : j = 0 ∨ j = 1 ∨ j = 2 := by omega
      all_goals rfl
  refine (HS.out _ 1 1 (by decide) _ _ _ _ (HT.out.below g2) hP).mono ?_
  rintro e w1 ⟨rfl, hb1⟩
  rw [cat_one, sha_abc]
  have HG1 := Lib.hid (g2.trans (hb1.mono g2.size))
  clear hP hb1 g2 kc
  go_wp2_with fail
  refine (HA.out _).mono ?_
  rintro e w2 ⟨rfl, hb2⟩
  have HG2 := Lib.hid (HG1.out.trans (hb2.mono HG1.out.size))
  have heq := HEq.out w2
  clear hb2
  unfold dig at heq ⊢
  obtain ⟨X, hX⟩ : ∃ X, (byteCells abcL).toArray = X := ⟨_, rfl⟩
  rw [hX] at heq ⊢
  clear hX
  go_wp2_with fail
  go_ret
  exact ⟨rfl, HG2.out⟩
end Go.Proofs.YtjjahcidncnogaaDoor
