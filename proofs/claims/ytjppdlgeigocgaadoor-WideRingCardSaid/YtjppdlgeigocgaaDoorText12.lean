/- The Text of the number 12, walked as it stands: it is 12. -/
import Derived.Test.YtjppdlgeigocgaaDoorParse12
import Derived.Deep.QuietTactic
import Derived.BigQuiet
import Derived.WalkSmall
namespace Go.Proofs.YtjppdlgeigocgaaDoor
open Go.RowKit Go.Lib Go.Shelf

/-- The library's division of a pair of words whose upper one is 0. -/
theorem div64_12 (w : World) :
    Calls Tryd.prog 59 #[.int .u64 0, .int .u64 12, .int .u64 10000000000000000000] w fun e w' => e = .returned (.tuple #[.int .u64 0, .int .u64 12]) ∧ ∃ n, w' = w.drewN n := by
  go_enter Tryd.func59, Tryd.ntmps59
  go_wp2
  go_quiet (fail)
  go_wp2
  go_ret2
  exact ⟨by simp, _, rfl⟩

set_option maxRecDepth 100000 in
set_option maxHeartbeats 1000000 in
theorem short12 (b : Nat) (w : World) (h : w.cell? ⟨b, 0, none⟩ = some (.int .u64 12)) :
    Calls Tryd.prog 80 #[.slice (some ⟨b, 0, none⟩) 1 129, .int .u64 10000000000000000000] w fun e w' => ∃ g : Nat, e = .returned (.tuple #[.slice (some ⟨g, 0, none⟩) 1 1, .int .u64 12]) ∧ w'.cell? ⟨g, 0, none⟩ = some (.int .u64 0) ∧ w.heap.size ≤ g ∧ Below w.heap.size w w' := by
  obtain ⟨i0, hi, hz0, hz1, hz2⟩ := info_parts info64
  have hlt := cell_lt h
  go_enter Tryd.func80, Tryd.ntmps80
  go_wp2_with (at_make; go_must (refine wpList_make_full _ rfl _ _ 54 rfl w.heap.size 22 i0 (.int .u64 0) 1 Tryd.underlying54 hi hz0 hz1 .i64 .i64 _ _ 1 rfl rfl (by rfl) (by rfl) (by rw [hz2]; omega) (by unfold maxLen; omega) (by go_size) ?_); intro w1 hown1 hgrow1)
  have hb : Below w.heap.size w w1 := (Below.refl _ _).grown hgrow1 (Nat.le_refl _) (fun k hk => by cases hk)
  have hc : w1.cell? ⟨b, 0, none⟩ = some (.int .u64 12) := (hb.cell (p := ⟨b, 0, none⟩) hlt).trans h
  have hg : w1.cell? ⟨w.heap.size, 0, none⟩ = some (.int .u64 0) := (hown1.cellAt 0 (by omega)).trans (by simp [madeCells, Value.cells])
  have hf := hown1.frozenAt 0
  have hs : ∀ v, (w1.setCell ⟨w.heap.size, 0, none⟩ v).cell? ⟨w.heap.size, 0, none⟩ = some v := fun v => by apply World.cell?_setCell_same; exact hg
  have HB := Lib.hid hb
  clear hb hgrow1 hown1 h
  refine wp_loop_rounds 2 ?_
  rw [rounds_succ]
  go_wp2_with (go_at_call 59; refine (div64_12 _).mono ?_; rintro e w' ⟨rfl, n, rfl⟩)
  rw [rounds_succ]
  go_wp2
  go_ret2
  refine ⟨w.heap.size, rfl, ?_, Nat.le_refl _, ?_⟩
  · apply World.cell?_setCell_same
    simpa using hg
  · exact (below_drewN HB.out _).setCell (Nat.le_refl _) _

theorem trim0 (g : Nat) (w : World) (h : w.cell? ⟨g, 0, none⟩ = some (.int .u64 0)) :
    Calls Tryd.prog 81 #[.slice (some ⟨g, 0, none⟩) 1 1] w fun e w' => (∃ a c, e = .returned (.agg #[.slice a 0 c])) ∧ ∃ c1 : Array Value, w' = w.alloc (.cells c1 56) := by
  have h1 := fun ob => cell_alloc h ob
  go_enter Tryd.func81, Tryd.ntmps81
  go_wp2
  refine wp_loop_rounds 2 ?_
  rw [rounds_succ]
  go_wp2
  rw [rounds_succ]
  go_wp2
  go_returns
  exact ⟨⟨_, _, rfl⟩, _, rfl⟩

/-- The words of a number, taken out of it. -/
theorem field_words (a : Option Addr) (n c : Nat) (W : World) : (Instr.field 56 (.agg #[.slice a n c]) 0).run Tryd.prog W = .ok (.slice a n c) W := by kernel_rfl

theorem owns_two {w : World} {B e : Nat} {v : Value} {x y : Value} (h : w.ownsRow B e 1 v 2 [x, y]) : ∃ g cap, v = .slice (some ⟨g, 0, none⟩) 2 cap ∧ w.cell? ⟨g, 0, none⟩ = some x ∧ w.cell? ⟨g, 1, none⟩ = some y ∧ B ≤ g := by
  rcases h.2 with ⟨_, h0⟩ | ⟨g, cap, cur, rfl, hb, _⟩
  · cases h0
  · exact ⟨g, cap, rfl, (h.cellAt 0 (by omega)).trans rfl, (h.cellAt 1 (by omega)).trans rfl, hb⟩

theorem owns_one {w : World} {B e : Nat} {v : Value} {x : Value} (h : w.ownsRow B e 1 v 1 [x]) : ∃ g cap, v = .slice (some ⟨g, 0, none⟩) 1 cap ∧ w.cell? ⟨g, 0, none⟩ = some x ∧ B ≤ g := by
  rcases h.2 with ⟨_, h0⟩ | ⟨g, cap, cur, rfl, hb, _⟩
  · cases h0
  · exact ⟨g, cap, rfl, (h.cellAt 0 (by omega)).trans rfl, hb⟩

theorem append12 (w : World) :
    Calls Tryd.prog 82 #[.slice none 0 0, .int .u64 12, .int .i64 10] w fun e w' => ∃ g cap : Nat, e = .returned (.slice (some ⟨g, 0, none⟩) 2 cap) ∧ w'.cell? ⟨g, 0, none⟩ = some (.int .u8 49) ∧ w'.cell? ⟨g, 1, none⟩ = some (.int .u8 50) ∧ Below w.heap.size w w' := by
  have hd : Lib.decDigits 12 = [49, 50] := by decide +kernel
  have C := Tryd.internal_strconv_AppendUint_10_small w.heap.size 0 12 (by omega) (.slice none 0 0) [] w (World.ownsRow_nil _ _ _ _) (Nat.le_refl _) (by omega)
  rw [hd] at C
  go_enter Tryd.func82, Tryd.ntmps82
  clear hd
  go_wp2_with fail
  refine C.mono ?_
  rintro e w' ⟨v', rfl, hown, hB, -⟩
  obtain ⟨g, cap, rfl, h0, h1, -⟩ := owns_two (x := .int .u8 49) (y := .int .u8 50) hown
  go_wp2
  go_ret
  exact ⟨g, cap, rfl, h0, h1, hB⟩

set_option maxRecDepth 100000 in
set_option maxHeartbeats 1000000 in
theorem text12 (b : Nat) (w : World) (h : w.cell? ⟨b, 0, none⟩ = some (.int .u64 12)) :
    Calls Tryd.prog 34 #[.agg #[.slice (some ⟨b, 0, none⟩) 1 129]] w fun e w' => e = .returned (.string ⟨#[49, 50]⟩) ∧ Below w.heap.size w w' := by
  obtain ⟨i0, hi, hz0, hz1, hz2⟩ := info_parts info64
  go_enter Tryd.func34, Tryd.ntmps34
  go_wp2
  refine wp_loop_rounds 2 ?_
  rw [rounds_succ]
  go_wp2_with fail
  refine (short12 b _ (cell_alloc h _)).mono ?_
  rintro e w1 ⟨g, rfl, hg, hgb, hB1⟩
  have HB1 := Lib.hid hB1
  have hlt1 : w.heap.size < w1.heap.size := by have := hB1.size; simp at this; omega
  clear hB1 hgb h
  go_wp2_with (at_builtin; go_must (refine wpList_append_own _ rfl _ _ 54 rfl w.heap.size 22 i0 (.int .u64 0) 1 8 Tryd.underlying54 hi hz0 hz1 hz2 rfl (by decide) (.slice none 0 0) 0 [] rfl (World.ownsRow_nil _ _ _ _) _ 1 1 [.int .u64 12] rfl rfl (news_one (by go_simp)) (by simp [Value.oneCell']) (by unfold maxLen; omega) (by omega) (by go_size) ?_); intro v2 w2 hown2 hgrow2 _; obtain ⟨g2, cap2, rfl, hc2, hb2⟩ := owns_one (x := .int .u64 12) hown2)
  have hk2 : ∀ k, k < w1.heap.size → w2.heap[k]? = w1.heap[k]? := fun k hk => (hgrow2.block k (by simp; omega) (by simp [Value.ownBlock])).trans (Below.heap_alloc _ _ _ hk)
  have hg2 : w2.cell? ⟨g, 0, none⟩ = some (.int .u64 0) := (World.cell?_of_block (w := w1) (w' := w2) (a := ⟨g, 0, none⟩) (hk2 g (cell_lt hg))).trans hg
  have hs2 : w1.heap.size ≤ w2.heap.size := by have := hgrow2.size; simp at this; omega
  have hB2 : Below w.heap.size w w2 := (old_trans ((Below.refl _ _).alloc (Nat.le_refl _) _) HB1.out).trans ⟨hgrow2.os, hgrow2.tape, hgrow2.output, hs2, fun k hk => hk2 k (by omega)⟩
  have HB2 := Lib.hid hB2
  have hs3 : w.heap.size < w2.heap.size := by omega
  have h3 := fun ob => cell_alloc hc2 ob
  clear hk2 hgrow2 hown2 hB2 hg HB1 hs2 hlt1
  refine (trim0 g _ hg2).mono ?_
  rintro e w3 ⟨⟨a3, c3, rfl⟩, k3, rfl⟩
  clear hg2
  have hfd := field_words a3 0 c3
  go_wp2
  clear hfd
  rw [rounds_succ]
  go_wp2_with fail
  refine (append12 _).mono ?_
  rintro e w4 ⟨g4, cap4, rfl, hx, hy, hB4⟩
  have HB4 := Lib.hid hB4
  have hconv : (convert 126 9 (.slice (some ⟨g4, 0, none⟩) 2 cap4)).run Tryd.prog w4 = .ok (.string ⟨#[49, 50]⟩) w4 := run_convert_bytes_back w4 126 9 5 ⟨g4, 0, none⟩ cap4 [49, 50] Tryd.underlying126 Tryd.underlying5 Tryd.underlying9 (fun j hj => by
    match j, hj with
    | 0, _ => exact hx
    | 1, _ => exact hy)
  clear hx hy hB4 h3 hc2
  go_wp2
  refine wp_loop_rounds 1 ?_
  rw [rounds_succ]
  go_wp2
  go_ret
  refine ⟨rfl, ?_⟩
  exact old_trans (HB2.out.alloc HB2.out.size _) HB4.out
end Go.Proofs.YtjppdlgeigocgaaDoor
