/- Parse of the text 12, walked as it stands: it makes the number 12. -/
import Derived.Test.YtjppdlgeigocgaaDoorPair
import Derived.OwnWalk
import Derived.Laws.RangeString
namespace Go.Proofs.YtjppdlgeigocgaaDoor
open Go.RowKit Go.Lib Go.Shelf

theorem info64 : (Tryd.prog.info? 22).map (fun i => (i.zero, i.size, i.bytes)) = some (some (.int .u64 0), 1, 8) := by kernel_rfl

theorem news_one {w : World} {b : Nat} {x : Value} (h : w.cell? ⟨b, 0, none⟩ = some x) : ∀ j u, [x][j]? = some u → w.cell? ((⟨b, 0, none⟩ : Addr).add j) = some u := by
  intro j u hu
  match j with
  | 0 => simp at hu; subst hu; simpa [Addr.add] using h
  | j + 1 => simp at hu

theorem cell_lt {w : World} {b : Nat} {o : Nat} {x : Value} (h : w.cell? ⟨b, o, none⟩ = some x) : b < w.heap.size := by
  by_cases hb : b < w.heap.size
  · exact hb
  · have e : w.heap[b]? = none := by simp; omega
    simp [World.cell?, e] at h

theorem cell_alloc {w : World} {b : Nat} {o : Nat} {x : Value} (h : w.cell? ⟨b, o, none⟩ = some x) (ob : Obj) : (w.alloc ob).cell? ⟨b, o, none⟩ = some x := by
  have hb := ((Below.refl w.heap.size w).alloc (Nat.le_refl _) ob).cell (p := ⟨b, o, none⟩) (cell_lt h)
  exact hb.trans h

theorem cell_set_other (w : World) (b o b' o' : Nat) (v : Value) (h : b' ≠ b) : (w.setCell ⟨b', o', none⟩ v).cell? ⟨b, o, none⟩ = w.cell? ⟨b, o, none⟩ := by
  apply World.cell?_setCell_other
  intro e
  exact h (congrArg Addr.block e)

theorem trim12 (b : Nat) (w : World) (h : w.cell? ⟨b, 0, none⟩ = some (.int .u64 12)) :
    Calls Tryd.prog 81 #[.slice (some ⟨b, 0, none⟩) 1 129] w fun e w' => e = .returned (.agg #[.slice (some ⟨b, 0, none⟩) 1 129]) ∧ ∃ c1 : Array Value, w' = w.alloc (.cells c1 56) := by
  have h1 := fun ob => cell_alloc h ob
  go_enter Tryd.func81, Tryd.ntmps81
  go_wp2
  refine wp_loop_rounds 1 ?_
  rw [rounds_succ]
  go_wp2
  go_returns
  exact ⟨rfl, _, rfl⟩

theorem bounded12 (b : Nat) (w : World) (h : w.cell? ⟨b, 0, none⟩ = some (.int .u64 12)) :
    Calls Tryd.prog 86 #[.slice (some ⟨b, 0, none⟩) 1 129] w fun e w' => e = .returned (.tuple #[.agg #[.slice (some ⟨b, 0, none⟩) 1 129], .nilIface]) ∧ ∃ c1 c2 c3 : Array Value, w' = ((w.alloc (.cells c1 56)).alloc (.cells c2 56)).alloc (.cells c3 56) := by
  go_enter Tryd.func86, Tryd.ntmps86
  go_wp2_with (go_at_call 81; refine (trim12 b _ (cell_alloc h _)).mono ?_; rintro e w' ⟨rfl, c1, rfl⟩)
  go_returns
  exact ⟨rfl, _, _, _, rfl⟩

/-- Below the blocks of the call's own all cells and all marks are as they were. -/
theorem below_reads {B : Nat} {W w1 : World} (hb : Below B W w1) : (∀ b o, b < B → w1.cell? ⟨b, o, none⟩ = W.cell? ⟨b, o, none⟩) ∧ (∀ b o, b < B → w1.frozen? ⟨b, o, none⟩ = W.frozen? ⟨b, o, none⟩) :=
  ⟨fun b o h => hb.cell (p := ⟨b, o, none⟩) h, fun b o h => hb.frozen (p := ⟨b, o, none⟩) h⟩

set_option maxRecDepth 100000 in
set_option maxHeartbeats 1000000 in
theorem gather12 (w : World) :
    Calls Tryd.prog 84 #[.string ⟨#[49, 50]⟩] w fun e w' => ∃ b : Nat, e = .returned (.tuple #[.agg #[.slice (some ⟨b, 0, none⟩) 1 129], .nilIface]) ∧ w'.cell? ⟨b, 0, none⟩ = some (.int .u64 12) ∧ w.heap.size ≤ b ∧ Below w.heap.size w w' := by
  obtain ⟨i0, hi, hz0, hz1, hz2⟩ := info_parts info64
  have hmin : (min (2 : Int) 19) = 2 := by decide
  have hex : ByteArray.extract ⟨#[49, 50]⟩ 0 2 = ⟨#[49, 50]⟩ := by decide
  have n0 : ∀ W : World, (Instr.next (.pointer (some ⟨W.heap.size, 0, none⟩)) true 0).run Tryd.prog (W.iter ⟨#[49, 50]⟩ 0) = .ok (.tuple #[.bool true, .int .i64 0, .int .i32 49]) (W.iter ⟨#[49, 50]⟩ 1) := fun W => run_next_ascii W ⟨#[49, 50]⟩ 0 0 (by decide) (by decide)
  have n1 : ∀ W : World, (Instr.next (.pointer (some ⟨W.heap.size, 0, none⟩)) true 0).run Tryd.prog (W.iter ⟨#[49, 50]⟩ 1) = .ok (.tuple #[.bool true, .int .i64 1, .int .i32 50]) (W.iter ⟨#[49, 50]⟩ 2) := fun W => run_next_ascii W ⟨#[49, 50]⟩ 1 0 (by decide) (by decide)
  have n2 : ∀ W : World, (Instr.next (.pointer (some ⟨W.heap.size, 0, none⟩)) true 0).run Tryd.prog (W.iter ⟨#[49, 50]⟩ 2) = .ok (.tuple #[.bool false]) (W.iter ⟨#[49, 50]⟩ 2) := fun W => run_next_end W ⟨#[49, 50]⟩ 2 0 (by decide)
  go_enter Tryd.func84, Tryd.ntmps84
  go_wp2_with (at_make; refine wpList_make_own _ rfl _ _ 54 rfl w.heap.size 22 i0 (.int .u64 0) 1 Tryd.underlying54 hi hz0 hz1 .i64 .i64 _ 129 rfl rfl (by rfl) (by rw [hz2]; omega) (by unfold maxLen; omega) (by go_size) ?_; intro w1 hown1 hgrow1; have hown2 : w1.ownsRow w.heap.size 22 1 (.slice (some ⟨w.heap.size + 1, 0, none⟩) 0 129) 0 [] := (by simpa using hown1); clear hown1)
  refine wp_loop_rounds 2 ?_
  rw [rounds_succ]
  go_wp2
  refine wp_loop_rounds 3 ?_
  rw [rounds_succ]
  go_wp2
  rw [rounds_succ]
  go_wp2
  rw [rounds_succ]
  go_wp2
  refine wp_loop_rounds 1 ?_
  rw [rounds_succ]
  go_wp2_with (at_builtin; go_must (refine wpList_append_fits _ rfl _ _ 54 rfl w.heap.size 22 i0 1 Tryd.underlying54 hi hz1 (w.heap.size + 1) 0 129 [] rfl ((hown2.alloc _).alloc _) _ 1 1 [.int .u64 12] rfl rfl (news_one (by go_simp)) (by simp [Value.oneCell']) (by omega) ?_); intro w2 hown3 hgrow2)
  have hcell : w2.cell? ⟨w.heap.size + 1, 0, none⟩ = some (.int .u64 12) := hown3.cells (g := w.heap.size + 1) rfl 0 _ rfl
  have hb1 : Below (w.heap.size + 1) (w.alloc (.cells #[.slice none 0 0] 56)) w1 := (Below.refl _ _).grown hgrow1 (by go_size) (fun k hk => by cases hk)
  have hb2 := ((hb1.alloc (by have := hb1.size; simp at this; omega) (.stringIter ⟨#[49, 50]⟩ 2)).alloc (by have := hb1.size; simp at this ⊢; omega) (.cells #[.int .u64 12] 22)).grown hgrow2 (by have := hb1.size; simp at this ⊢; omega) (fun k hk => by cases hk; exact Nat.le_refl _)
  have hsz := hb2.size
  have hsz1 := hb1.size
  simp at hsz hsz1
  have hlt : w.heap.size < w2.heap.size := by omega
  obtain ⟨hc, hf⟩ := below_reads hb2
  have hc0 : w2.cell? ⟨w.heap.size, 0, none⟩ = some (.slice none 0 0) := by rw [hc _ _ (by omega)]; simp
  have hc3 : ∀ o1 o2 o3, (((w2.alloc o1).alloc o2).alloc o3).cell? ⟨w.heap.size, 0, none⟩ = some (.slice none 0 0) := fun o1 o2 o3 => cell_alloc (cell_alloc (cell_alloc hc0 o1) o2) o3
  have hz3 : ∀ o1 o2 o3, Below (w.heap.size + 1) w2 (((w2.alloc o1).alloc o2).alloc o3) := fun o1 o2 o3 => by go_grown
  have hf3 : ∀ o1 o2 o3, (((w2.alloc o1).alloc o2).alloc o3).frozen? ⟨w.heap.size, 0, none⟩ = (w.alloc (.cells #[.slice none 0 0] 56)).frozen? ⟨w.heap.size, 0, none⟩ := fun o1 o2 o3 => by
    rw [(below_reads (hz3 o1 o2 o3)).2 _ _ (by omega), hf _ _ (by omega)]
  have hs3 : ∀ o1 o2 o3 v, ((((w2.alloc o1).alloc o2).alloc o3).setCell ⟨w.heap.size, 0, none⟩ v).cell? ⟨w.heap.size, 0, none⟩ = some v := fun o1 o2 o3 v => by apply World.cell?_setCell_same; exact hc3 o1 o2 o3
  clear hz3 hc hf hc0
  have HB := Lib.hid hb2
  clear hb1 hb2 hgrow1 hgrow2 hown2 hown3 n0 n1 n2 hsz hsz1
  rw [rounds_succ]
  go_wp2_with (go_at_call 86; refine (bounded12 _ _ hcell).mono ?_; rintro e w' ⟨rfl, c1, c2, c3, rfl⟩)
  refine bodyPost_ret (v := .tuple #[.agg #[.slice (some ⟨w.heap.size + 1, 0, none⟩) 1 129], .nilIface]) (by simp [results, Tryd.results84, go_sem, hs3]) rfl ⟨w.heap.size + 1, rfl, ?_, by omega, ?_⟩
  · refine (cell_set_other _ _ _ _ _ _ (by omega)).trans ?_
    exact cell_alloc (cell_alloc (cell_alloc hcell _) _) _
  · have h0 := HB.out
    have h1 : Below w.heap.size w w2 := old_trans (b := w.alloc (.cells #[.slice none 0 0] 56)) ((Below.refl _ _).alloc (Nat.le_refl _) _) (h0.mono (by simp))
    have h2 := h1.size
    exact (((h1.alloc h2 _).alloc (by simp; omega) _).alloc (by simp; omega) _).setCell (Nat.le_refl _) _
/-- What a call that leaves all that was there as it was leaves of a block that was made just before it. -/
theorem made_reads {w w2 : World} {c : Array Value} {t : TypeId} (hb : Below (w.alloc (.cells c t)).heap.size (w.alloc (.cells c t)) w2) :
    (∀ o, w2.cell? ⟨w.heap.size, o, none⟩ = c[o]?) ∧ (∀ o, w2.frozen? ⟨w.heap.size, o, none⟩ = (w.alloc (.cells c t)).frozen? ⟨w.heap.size, o, none⟩) ∧
    (∀ o x v, c[o]? = some x → (w2.setCell ⟨w.heap.size, o, none⟩ v).cell? ⟨w.heap.size, o, none⟩ = some v) := by
  have h := below_reads hb
  have h1 : ∀ o, w2.cell? ⟨w.heap.size, o, none⟩ = c[o]? := fun o => by rw [h.1 _ _ (by simp)]; simp
  refine ⟨h1, fun o => h.2 _ _ (by simp), fun o x v hx => ?_⟩
  apply World.cell?_setCell_same
  exact (h1 o).trans hx

set_option maxRecDepth 100000 in
set_option maxHeartbeats 1000000 in
theorem parse12 (w : World) :
    Calls Tryd.prog 38 #[.string ⟨#[49, 50]⟩] w fun e w' => ∃ b : Nat, e = .returned (.tuple #[.agg #[.slice (some ⟨b, 0, none⟩) 1 129], .nilIface]) ∧ w'.cell? ⟨b, 0, none⟩ = some (.int .u64 12) ∧ w.heap.size ≤ b ∧ Below w.heap.size w w' := by
  go_enter Tryd.func38, Tryd.ntmps38
  go_wp2
  refine wp_loop_rounds 3 ?_
  rw [rounds_succ]
  go_wp2
  rw [rounds_succ]
  go_wp2
  rw [rounds_succ]
  go_wp2_with fail
  refine (gather12 _).mono ?_
  rintro e w2 ⟨b, rfl, hcb, hbb, hB⟩
  obtain ⟨m1, m2, m3⟩ := made_reads hB
  have h1 := m1 0
  have h2 := m2 0
  have h3 : ∀ v, (w2.setCell ⟨w.heap.size, 0, none⟩ v).cell? ⟨w.heap.size, 0, none⟩ = some v := fun v => m3 0 _ v rfl
  have HB := Lib.hid hB
  simp only [World.size_alloc] at hbb
  have HC := Lib.hid hcb
  clear hB m1 m2 m3 hcb
  go_wp2
  refine bodyPost_ret (v := .tuple #[.agg #[.slice (some ⟨b, 0, none⟩) 1 129], .nilIface]) (by simp [results, Tryd.results38, go_sem, h3]) rfl ⟨b, rfl, ?_, by omega, ?_⟩
  · exact (cell_set_other _ _ _ _ _ _ (by omega)).trans HC.out
  · exact (old_trans ((Below.refl _ _).alloc (Nat.le_refl _) _) HB.out).setCell (Nat.le_refl _) _

end Go.Proofs.YtjppdlgeigocgaaDoor
