/- What affidavitlaw07's wakes asks: it answers true. -/
import Derived.Test.YtjjahcidncnogaaDoorMacWakes
namespace Go.Proofs.YtjjahcidncnogaaDoor
open Go.ChangeShapes Go.WideShapes Go.ChangeAt Go.RowKit Go.Lib

def jefe : List UInt8 := [74, 101, 102, 101]
def whatL : List UInt8 := [119, 104, 97, 116, 32, 100, 111, 32, 121, 97, 32, 119, 97, 110, 116, 32]
def nothL : List UInt8 := [102, 111, 114, 32, 110, 111, 116, 104, 105, 110, 103, 63]
def jefeD : List UInt8 := [0x5b, 0xdc, 0xc1, 0x46, 0xbf, 0x60, 0x75, 0x4e, 0x6a, 0x04, 0x24, 0x26, 0x08, 0x95, 0x75, 0xc7, 0x5a, 0x00, 0x3f, 0x08, 0x9d, 0x27, 0x39, 0x83, 0x9d, 0xec, 0x58, 0xb9, 0x64, 0xec, 0x38, 0x43]
theorem hmac_jefe : hmacL jefe (whatL ++ nothL) = jefeD := by decide +kernel
theorem mark_bytes {w : World} {g b K : Nat} {L : List UInt8} {t : TypeId} {fr : Nat × Nat} (h : w.heap[g]? = some (.cells (Go.Lib.byteCells L).toArray t fr)) (hb : g < b) (hK : g ≠ K) : Bytes b K (some ⟨g, 0, none⟩) L w := fun _ =>
  ⟨g, 0, rfl, hb, hK, fun j hj => by rw [cell_of_heap h, List.getElem?_toArray, Nat.zero_add]; simp [Go.Lib.byteCells, List.getElem?_eq_getElem hj]⟩

set_option maxRecDepth 100000 in
set_option maxHeartbeats 8000000 in
theorem wakes7_any (w : World) (hT : Tab w) : Calls Tryd.prog 38 #[] w fun e w' => e = .returned (.bool true) ∧ Below w.heap.size w w' := by
  have HT := Lib.hid hT
  have kc := fun (w : World) (C : Array Value) (n c : Nat) => Lib.run_convert_bytes_const (P := Tryd.prog) w 28 5 C n c Tryd.underlying28 Tryd.underlying5
  have kc2 := fun (w : World) (o : Obj) (C : Array Value) (n c : Nat) => kc (w.alloc o) C n c
  have kc3 := fun (w : World) (o o2 : Obj) (C : Array Value) (n c : Nat) => kc ((w.alloc o).alloc o2) C n c
  simp only [World.size_alloc] at kc2 kc3
  obtain ⟨v0, hv0⟩ : ∃ v, v = w.alloc (.cells (Go.Lib.byteCells rowW).toArray 5 (8, 9)) := ⟨_, rfl⟩
  have HV0 := Lib.hid hv0.symm
  have HG0 : Hid (Below w.heap.size w v0) := Lib.hid (by rw [hv0]; exact (Below.refl _ w).alloc (Nat.le_refl _) _)
  have HPa := Lib.hid (parts_wakes w.heap.size v0 (fun j hj => by
    have h : v0.heap[w.heap.size]? = some (.cells (Go.Lib.byteCells rowW).toArray 5 (8, 9)) := by rw [hv0]; exact (MapKept.heap_alloc _ _).1
    rw [cell_of_heap h, List.getElem?_toArray]
    simp only [Go.Lib.byteCells, List.getElem?_map, List.getElem?_eq_getElem (show j < rowW.length from hj), Option.map_some]
    rfl) (by rw [hv0]; simp))
  clear hT hv0
  go_enter Tryd.func38, Tryd.ntmps38
  go_wp2_with fail
  refine calls_at HV0.out ?_
  refine HPa.out.mono ?_
  rintro e w1 ⟨r, kk, q, c, rfl, hr, hq, hb1⟩
  have HR1 := Lib.hid hr
  have HQ1 := Lib.hid hq
  have HG1 : Hid (Below w.heap.size w w1) := Lib.hid (HG0.out.trans (hb1.mono HG0.out.size))
  clear hr hq hb1
  obtain ⟨v2, hv2⟩ : ∃ v, v = (((w1.alloc (.cells (Go.Lib.byteCells jefe).toArray 5 (4, 5))).alloc (.cells (Go.Lib.byteCells whatL).toArray 5 (16, 17))).alloc (.cells (Go.Lib.byteCells nothL).toArray 5 (12, 13))).alloc (.cells #[.slice (some ⟨w1.heap.size + 1, 0, none⟩) 16 16, .slice (some ⟨w1.heap.size + 1 + 1, 0, none⟩) 12 12] 28) := ⟨_, rfl⟩
  have HV2 := Lib.hid hv2.symm
  have hA2 : Below w1.heap.size w1 v2 := by rw [hv2]; exact ((((Below.refl _ w1).alloc (Nat.le_refl _) _).alloc (by simp) _).alloc (by first | (simp; done) | (simp; omega)) _).alloc (by first | (simp; done) | (simp; omega)) _
  have hz2 : v2.heap.size = w1.heap.size + 1 + 1 + 1 + 1 := by rw [hv2]; simp
  have h0 : v2.heap[w1.heap.size]? = some (.cells (Go.Lib.byteCells jefe).toArray 5 (4, 5)) := by
    rw [hv2, (MapKept.heap_alloc _ _).2 _ (by first | (simp; done) | (simp; omega)), (MapKept.heap_alloc _ _).2 _ (by first | (simp; done) | (simp; omega)), (MapKept.heap_alloc _ _).2 _ (by simp), (MapKept.heap_alloc _ _).1]
  have h1 : v2.heap[w1.heap.size + 1]? = some (.cells (Go.Lib.byteCells whatL).toArray 5 (16, 17)) := by
    rw [hv2, (MapKept.heap_alloc _ _).2 _ (by first | (simp; done) | (simp; omega)), (MapKept.heap_alloc _ _).2 _ (by simp)]
    have h := (MapKept.heap_alloc (w1.alloc (.cells (Go.Lib.byteCells jefe).toArray 5 (4, 5))) (.cells (Go.Lib.byteCells whatL).toArray 5 (16, 17))).1
    simp only [World.size_alloc] at h
    exact h
  have h2 : v2.heap[w1.heap.size + 1 + 1]? = some (.cells (Go.Lib.byteCells nothL).toArray 5 (12, 13)) := by
    rw [hv2, (MapKept.heap_alloc _ _).2 _ (by simp)]
    have h := (MapKept.heap_alloc ((w1.alloc (.cells (Go.Lib.byteCells jefe).toArray 5 (4, 5))).alloc (.cells (Go.Lib.byteCells whatL).toArray 5 (16, 17))) (.cells (Go.Lib.byteCells nothL).toArray 5 (12, 13))).1
    simp only [World.size_alloc] at h
    exact h
  have h3 : v2.heap[w1.heap.size + 1 + 1 + 1]? = some (.cells #[.slice (some ⟨w1.heap.size + 1, 0, none⟩) 16 16, .slice (some ⟨w1.heap.size + 1 + 1, 0, none⟩) 12 12] 28 (0, 0)) := by
    rw [hv2]
    have h := (MapKept.heap_alloc (((w1.alloc (.cells (Go.Lib.byteCells jefe).toArray 5 (4, 5))).alloc (.cells (Go.Lib.byteCells whatL).toArray 5 (16, 17))).alloc (.cells (Go.Lib.byteCells nothL).toArray 5 (12, 13))) (.cells #[.slice (some ⟨w1.heap.size + 1, 0, none⟩) 16 16, .slice (some ⟨w1.heap.size + 1 + 1, 0, none⟩) 12 12] 28)).1
    simp only [World.size_alloc] at h
    exact h
  have HG2 : Hid (Below w.heap.size w v2) := Lib.hid (HG1.out.trans (hA2.mono HG1.out.size))
  have hSum := hmacSum_any (some ⟨w1.heap.size, 0, none⟩) 4 jefe (some ⟨w1.heap.size + 1 + 1 + 1, 0, none⟩) 2 2 (by decide) (pairF (some ⟨w1.heap.size + 1, 0, none⟩) (some ⟨w1.heap.size + 1 + 1, 0, none⟩)) (pairF 16 12) (pairF whatL nothL) v2 (HT.out.below HG2.out)
    (mark_bytes h0 (by omega) (by omega)) (by decide) (by decide)
    (parts_two (by rw [cell_of_heap h3]; rfl) (by rw [cell_of_heap h3]; rfl) (by omega) (mark_bytes h1 (by omega) (by omega)) (mark_bytes h2 (by omega) (by omega)) (by decide) (by decide) (by decide) (by decide)) (by rw [cat_two]; decide)
  rw [cat_two, hmac_jefe] at hSum
  unfold dig at hSum
  have HSum := Lib.hid hSum
  have HR2 : Hid (v2.cell? ⟨r, 0, none⟩ = some (.slice q 2 c)) := Lib.hid ((hA2.cell (p := ⟨r, 0, none⟩) (block_lt_of_cell HR1.out)).trans HR1.out)
  have HQ2 : Hid (Bytes v2.heap.size v2.heap.size q [97, 98] v2) := Lib.hid ((HQ1.out.keep hA2).at hA2.size hA2.size)
  clear hSum h0 h1 h2 h3 hz2 hv2 hA2
  go_wp2_with fail
  refine calls_at HV2.out ?_
  refine HSum.out.mono ?_
  rintro e w3 ⟨rfl, hb3⟩
  have HG3 : Hid (Below w.heap.size w w3) := Lib.hid (HG2.out.trans (hb3.mono HG2.out.size))
  obtain ⟨v4, hv4⟩ : ∃ v, v = w3.alloc (.cells (Go.Lib.byteCells jefeD).toArray 48) := ⟨_, rfl⟩
  have HV4 := Lib.hid ((World.setRow_alloc_new w3 (Go.Lib.byteCells zero32).toArray (Go.Lib.byteCells jefeD).toArray 48).trans hv4.symm)
  obtain ⟨b4, hb4⟩ : ∃ b, w3.heap.size = b := ⟨_, rfl⟩
  have HB4 := Lib.hid hb4
  have hA4 : Below v2.heap.size v2 v4 := by rw [hv4]; exact hb3.alloc hb3.size _
  have HG4 : Hid (Below w.heap.size w v4) := Lib.hid (HG2.out.trans (hA4.mono HG2.out.size))
  have hH4 : v4.heap[b4]? = some (.cells (Go.Lib.byteCells jefeD).toArray 48 (0, 0)) := by rw [hv4, ← hb4]; exact heap_last _ _
  have d0 : v4.cell? ⟨b4, 0, none⟩ = some (.int .u8 91) := by rw [cell_of_heap hH4]; rfl
  have d31 : v4.cell? ⟨b4, 31, none⟩ = some (.int .u8 67) := by rw [cell_of_heap hH4]; rfl
  have cr : v4.cell? ⟨r, 0, none⟩ = some (.slice q 2 c) := (hA4.cell (p := ⟨r, 0, none⟩) (block_lt_of_cell HR2.out)).trans HR2.out
  have HQ4 : Bytes v4.heap.size v4.heap.size q [97, 98] v4 := (HQ2.out.keep hA4).at hA4.size hA4.size
  have htx : (convert 28 9 (.slice q 2 c)).run Tryd.prog v4 = .ok (.string ⟨#[97, 98]⟩) v4 := bytes_text c HQ4 (fun e => by
    obtain ⟨pb, off, hp, _⟩ := HQ4 (by decide)
    rw [e] at hp
    cases hp)
  have hYi := dig_size jefeD rfl
  have HYi := Lib.hid hYi
  clear hYi HQ4 hA4 hv4 hb4 hb3 kc kc2 kc3 hH4
  go_wp2_with (refine wpList_store_row rfl 48 (.tmp 3) (.tmp 17) rfl w3.heap.size (Go.Lib.byteCells jefeD).toArray rfl rfl 48 (Go.Lib.byteCells zero32).toArray (heap_last _ _) HYi.out rfl (dig_one _) ?_; refine wpList_world HV4.out ?_; rw [HB4.out])
  go_ret
  exact ⟨rfl, HG4.out⟩
end Go.Proofs.YtjjahcidncnogaaDoor
