/- hmac.Parts at the row that affidavitlaw07's wakes asks of. -/
import Derived.Test.YtjjahcidncnogaaDoorMacSum
import Derived.Test.YtjjahcidncnogaaDoorShaFreshA
import Derived.LoopN
import Derived.Handy
namespace Go.Proofs.YtjjahcidncnogaaDoor
open Go.ChangeShapes Go.WideShapes Go.ChangeAt Go.RowKit Go.Lib

def rowW : List UInt8 := [50, 32, 97, 98, 32, 48, 32, 32]
/-- The row stands in block g. -/
def RowAt (g : Nat) (w : World) : Prop := ∀ j, (hj : j < 8) → w.cell? ⟨g, j, none⟩ = some (.int .u8 ((rowW[j]'hj).toNat : Nat))
theorem RowAt.keep {g B : Nat} {w w' : World} (h : RowAt g w) (hb : Below B w w') (hg : g < B) : RowAt g w' := fun j hj => (hb.cell (p := ⟨g, j, none⟩) hg).trans (h j hj)

set_option maxRecDepth 100000 in
set_option maxHeartbeats 4000000 in
theorem len_a (g : Nat) (w : World) (h : RowAt g w) : Calls Tryd.prog 87 #[.slice (some ⟨g, 0, none⟩) 8 8, .int .i64 0] w fun e w' => e = .returned (.tuple #[.int .i64 2, .int .i64 2, .bool true]) ∧ w' = w := by
  have c0 : w.cell? ⟨g, 0, none⟩ = some (.int .u8 50) := h 0 (by decide)
  have c1 : w.cell? ⟨g, 1, none⟩ = some (.int .u8 32) := h 1 (by decide)
  clear h
  go_enter Tryd.func87, Tryd.ntmps87
  go_wp2_with fail
  refine wp_loop_rounds 3 ?_
  rw [rounds_succ]
  go_wp2_with fail
  rw [rounds_succ]
  go_wp2_with fail
  go_ret3
  exact ⟨rfl, rfl⟩
set_option maxRecDepth 100000 in
set_option maxHeartbeats 4000000 in
theorem len_b (g : Nat) (w : World) (h : RowAt g w) : Calls Tryd.prog 87 #[.slice (some ⟨g, 0, none⟩) 8 8, .int .i64 5] w fun e w' => e = .returned (.tuple #[.int .i64 0, .int .i64 7, .bool true]) ∧ w' = w := by
  have c0 : w.cell? ⟨g, 5, none⟩ = some (.int .u8 48) := h 5 (by decide)
  have c1 : w.cell? ⟨g, 6, none⟩ = some (.int .u8 32) := h 6 (by decide)
  clear h
  go_enter Tryd.func87, Tryd.ntmps87
  go_wp2_with fail
  refine wp_loop_rounds 3 ?_
  rw [rounds_succ]
  go_wp2_with fail
  rw [rounds_succ]
  go_wp2_with fail
  go_ret3
  exact ⟨rfl, rfl⟩

theorem clone_row (g off n c : Nat) (l : List UInt8) (hl : l.length = n) (hn : n ≤ 8) (w : World) (h : ∀ j, (hj : j < l.length) → w.cell? ⟨g, off + j, none⟩ = some (.int .u8 (l[j].toNat : Nat))) :
    Calls Tryd.prog 88 #[.slice (some ⟨g, off, none⟩) n c] w fun e w' => ∃ q k, e = .returned (.slice q n k) ∧ w'.ownsRow w.heap.size 5 1 (.slice q n k) n (Go.Lib.byteCells l) ∧ Below w.heap.size w w' := by
  have h := Go.Proofs.Tryd.bytes_Clone_at ⟨g, off, none⟩ n c (bI l) w (by rw [bI_length, hl]) (by omega) (fun i hi => by
    have hil : i < l.length := by omega
    rw [Addr.add_lit, h i hil]
    simp [bI, List.getD_eq_getElem?_getD, List.getElem?_eq_getElem hil])
  refine h.mono ?_
  rintro e w' ⟨v', rfl, ho, -, hb⟩
  obtain ⟨q, k, rfl⟩ := owns_slice ho
  refine ⟨q, k, rfl, ?_, hb⟩
  have e1 : (bI l).map (Value.int .u8) = Go.Lib.byteCells l := by unfold bI Go.Lib.byteCells; rw [List.map_map]; rfl
  rw [← e1]
  exact ho
theorem grown_of_below {w w' : World} (h : Below w.heap.size w w') : w.grownBy w' none := ⟨h.os, h.tape, h.output, h.size, fun k hk _ => h.block k hk⟩
/-- A row of slices of the call's own that is not empty. -/
theorem slices_some {w : World} {B n : Nat} {v : Value} {xs : List Value} (h : w.ownsRow B 28 1 v n xs) (h0 : 0 < n) : ∃ g c cur, v = .slice (some ⟨g, 0, none⟩) n c ∧ B ≤ g ∧ w.heap[g]? = some (.cells cur 28 (0, 0)) ∧ ∀ j u, xs[j]? = some u → w.cell? ⟨g, j, none⟩ = some u := by
  have hc := fun g hg => h.cells (g := g) hg
  rcases h.2 with ⟨hh, hn⟩ | ⟨g, cap, cur, rfl, hB, hg, hnc, _⟩
  · omega
  · refine ⟨g, cap, cur, rfl, hB, hg, fun j u hj => ?_⟩
    have := hc g rfl j u hj
    rwa [Addr.add_lit, Nat.zero_add] at this
theorem infoSlice : (Tryd.prog.info? 28).map (fun i => (i.zero, i.size, i.bytes)) = some (some (.slice none 0 0), 1, 24) := by kernel_rfl

set_option maxRecDepth 100000 in
set_option maxHeartbeats 8000000 in
theorem parts_wakes (g : Nat) (w : World) (h : RowAt g w) (hg : g < w.heap.size) : Calls Tryd.prog 52 #[.slice (some ⟨g, 0, none⟩) 8 8] w fun e w' => ∃ r k q c, e = .returned (.tuple #[.slice (some ⟨r, 0, none⟩) 2 k, .nilIface]) ∧
    w'.cell? ⟨r, 0, none⟩ = some (.slice q 2 c) ∧ Bytes w'.heap.size w'.heap.size q [97, 98] w' ∧ Below w.heap.size w w' := by
  have HA := Lib.hid (len_a g w h)
  have HB := Lib.hid (fun w h => len_b g w h)
  have HR := Lib.hid h
  have HGl := Lib.hid hg
  have HC1 := Lib.hid (clone_row g 2 2 6 [97, 98] rfl (by decide) w (fun j hj => by
    match j, hj with
    | 0, _ => exact h 2 (by decide)
    | 1, _ => exact h 3 (by decide)))
  have HC2 := Lib.hid (fun w' => clone_row g 7 0 1 [] rfl (by decide) w' (fun j hj => by cases hj))
  have c4 : w.cell? ⟨g, 4, none⟩ = some (.int .u8 32) := h 4 (by decide)
  have hm1 : min (4 : Int) 8 = 4 := by decide
  have hm2 : min (7 : Int) 8 = 7 := by decide
  clear h hg
  go_enter Tryd.func52, Tryd.ntmps52
  go_wp2_with fail
  refine wp_loop_rounds 3 ?_
  rw [rounds_succ]
  go_wp2_with fail
  refine HA.out.mono ?_
  rintro e w1 ⟨rfl, hw1⟩
  obtain rfl : w = w1 := hw1.symm
  go_wp2_with fail
  refine HC1.out.mono ?_
  rintro e w2 ⟨q2, k2, rfl, ho2, hb2⟩
  obtain ⟨i1, hi1, hz1, hz2, hz3⟩ := info_parts infoSlice
  have HB2 := Lib.hid hb2
  have HO2 := Lib.hid ho2
  have HG3 : Hid (Below w.heap.size w (w2.alloc (.cells #[.slice q2 2 k2] 28))) := Lib.hid (HB2.out.alloc HB2.out.size _)
  have HL3 : Hid ((w2.alloc (.cells #[.slice q2 2 k2] 28)).cell? ⟨w2.heap.size, 0, none⟩ = some (.slice q2 2 k2)) := Lib.hid (by rw [cell_of_heap (MapKept.heap_alloc _ _).1]; rfl)
  have HI := Lib.hid (And.intro hi1 (And.intro hz1 (And.intro hz2 hz3)))
  clear ho2 hb2 hi1 hz1 hz2 hz3 c4
  go_wp2_with (refine wpList_append_own _ rfl (.tmp 45) (.tmp 51) 33 rfl w.heap.size 28 i1 (.slice none 0 0) 1 24 Tryd.underlying33 HI.out.1 HI.out.2.1 HI.out.2.2.1 HI.out.2.2.2 rfl (by decide) _ 0 [] rfl (World.ownsRow_nil _ _ _ _) ⟨w2.heap.size, 0, none⟩ 1 1 [.slice q2 2 k2] rfl rfl ?hn (fun u hu => by cases hu with | head => rfl | tail _ h => cases h) (by decide) (by decide) HG3.out.size ?_)
  case hn =>
    intro j u hj
    match j, hj with
    | 0, hj => cases hj; exact HL3.out
  intro v3 w3 ho3 hg3 _
  obtain ⟨r3, c3, cur3, rfl, hr3, hh3, -⟩ := slices_some ho3 (by decide)
  have HO3 := Lib.hid ho3
  have HH3 := Lib.hid hh3
  have HGw3 : Hid (Below w.heap.size w w3) := Lib.hid (HG3.out.grown hg3 HG3.out.size (fun k hk => by cases hk))
  have HB3 : Hid (Bytes w3.heap.size w3.heap.size q2 [97, 98] w3 ∧ ∀ pb off, q2 = some ⟨pb, off, none⟩ → pb ≠ r3) := Lib.hid (by
    obtain ⟨g2, cur2, hq, hga, hgb, hgc, hgd, hge⟩ := owns_some HO2.out rfl (by decide)
    subst hq
    have h1 : g2 < (w2.alloc (.cells #[.slice (some ⟨g2, 0, none⟩) 2 k2] 28)).heap.size := by simp; omega
    have h2 : w3.heap[g2]? = some (.cells cur2 5 (0, 0)) := (hg3.block g2 h1 (by simp [Value.ownBlock])).trans (((MapKept.heap_alloc _ _).2 _ hgb).trans hgd)
    have hne : g2 ≠ r3 := fun e => by
      subst e
      rw [hh3] at h2
      simp only [Option.some.injEq, Obj.cells.injEq] at h2
      exact absurd h2.2.1 (by decide)
    refine ⟨fun _ => ⟨g2, 0, rfl, (Array.getElem?_eq_some_iff.1 h2).1, by have := (Array.getElem?_eq_some_iff.1 h2).1; omega, fun j hj => ?_⟩, fun pb off e => by cases e; exact hne⟩
    rw [Nat.zero_add, cell_of_heap h2]
    have h3 := hge j hj
    rw [cell_of_heap hgd] at h3
    exact h3)
  have HR3 : Hid (RowAt g w3) := Lib.hid (HR.out.keep HGw3.out HGl.out)
  have c8 : w3.cell? ⟨g, 7, none⟩ = some (.int .u8 32) := HR3.out 7 (by decide)
  clear ho3 hg3 hh3 hr3
  go_wp2_with fail
  rw [rounds_succ]
  go_wp2_with fail
  refine (HB.out _ HR3.out).mono ?_
  rintro e w4 ⟨rfl, hw4⟩
  obtain rfl : w3 = w4 := hw4.symm
  go_wp2_with fail
  refine (HC2.out _).mono ?_
  rintro e w5 ⟨q5, k5, rfl, ho5, hb5⟩
  have HB5 := Lib.hid hb5
  have HG6 : Hid (Below w3.heap.size w3 (w5.alloc (.cells #[.slice q5 0 k5] 28))) := Lib.hid (HB5.out.alloc HB5.out.size _)
  have HL6 : Hid ((w5.alloc (.cells #[.slice q5 0 k5] 28)).cell? ⟨w5.heap.size, 0, none⟩ = some (.slice q5 0 k5)) := Lib.hid (by rw [cell_of_heap (MapKept.heap_alloc _ _).1]; rfl)
  have HO6 := Lib.hid (HO3.out.kept (grown_of_below HG6.out) (.inr (by simp [Value.ownBlock])))
  have HBs6 : Hid (w.heap.size ≤ (w5.alloc (.cells #[.slice q5 0 k5] 28)).heap.size) := Lib.hid (Nat.le_trans HGw3.out.size HG6.out.size)
  clear ho5 hb5 c8
  go_wp2_with (refine wpList_append_own _ rfl (.tmp 45) (.tmp 51) 33 rfl w.heap.size 28 i1 (.slice none 0 0) 1 24 Tryd.underlying33 HI.out.1 HI.out.2.1 HI.out.2.2.1 HI.out.2.2.2 rfl (by decide) _ 1 [.slice q2 2 k2] rfl HO6.out ⟨w5.heap.size, 0, none⟩ 1 1 [.slice q5 0 k5] rfl rfl ?hn (fun u hu => by cases hu with | head => rfl | tail _ h => cases h) (by decide) (by decide) HBs6.out ?_)
  case hn =>
    intro j u hj
    match j, hj with
    | 0, hj => cases hj; exact HL6.out
  intro v7 w7 ho7 hg7 _
  obtain ⟨r7, c7, cur7, rfl, hr7, hh7, hc7⟩ := slices_some ho7 (by decide)
  have HF1 : Hid (w7.cell? ⟨r7, 0, none⟩ = some (.slice q2 2 k2)) := Lib.hid (hc7 0 _ rfl)
  have HF2 : Hid (Bytes w7.heap.size w7.heap.size q2 [97, 98] w7) := Lib.hid (fun hne => by
    obtain ⟨pb, off, hq, h1, h2, h3⟩ := HB3.out.1 hne
    have hne2 := HB3.out.2 pb off hq
    have h6 : (w5.alloc (.cells #[.slice q5 0 k5] 28)).heap[pb]? = w3.heap[pb]? := HG6.out.block pb h1
    have h7 : w7.heap[pb]? = w3.heap[pb]? := (hg7.block pb (Nat.lt_of_lt_of_le h1 HG6.out.size) (by simp [Value.ownBlock]; omega)).trans h6
    have hs : w3.heap.size ≤ w7.heap.size := Nat.le_trans HG6.out.size hg7.size
    refine ⟨pb, off, hq, by omega, by omega, fun j hj => ?_⟩
    rw [World.cell?_of_block (w := w3) (w' := w7) (a := ⟨pb, off + j, none⟩) h7]
    exact h3 j hj)
  have HF3 : Hid (Below w.heap.size w w7) := Lib.hid ((HGw3.out.trans (HG6.out.mono HGw3.out.size)).grown hg7 HBs6.out (fun k hk => by simp [Value.ownBlock] at hk; subst hk; exact (HO3.out.lt r3 rfl).1))
  clear ho7 hg7 hh7 hc7 hr7
  go_wp2_with fail
  rw [rounds_succ]
  go_wp2_with fail
  go_ret2
  exact ⟨r7, c7, q2, k2, rfl, HF1.out, HF2.out, HF3.out⟩
end Go.Proofs.YtjjahcidncnogaaDoor
