/- Regions that draw: two operations may come up next; '[]byte("..")' in any order. -/
import Derived.Test.YtjjahcidncnogaaDoorHeld
import Derived.Test.YtjjahcidncnogaaDoorShaWorks
namespace Go.Proofs.YtjjahcidncnogaaDoor
open Go.RowKit Go.Lib

/-- Two operations may come up next. -/
theorem held_next2 {P : Program} {md : Region.Mode} {ops : Array Oper} {Q : Exit → Act → World → Prop} {S : World → Prop} {fuel : Nat} {listed : Array Bool} {a : Act} {w : World} (i j : Nat) (o p : Oper) (hr : Region.ready md ops listed = [i, j]) (ho : ops[i]? = some o) (hp : ops[j]? = some p)
    (hw : Region.wanted o (yielded ops a.tmps) = true) (hv : Region.wanted p (yielded ops a.tmps) = true)
    (h : ∀ K' : Act → World → Prop, (∀ a w, S w → (S w → wpAnyH P md ops Q S fuel (listed.setIfInBounds i true) a w) → K' a w) → Oper.wp P o a w K' Q)
    (k : ∀ K' : Act → World → Prop, (∀ a w, S w → (S w → wpAnyH P md ops Q S fuel (listed.setIfInBounds j true) a w) → K' a w) → Oper.wp P p a w K' Q) : wpAnyH P md ops Q S (fuel + 1) listed a w :=
  wpAnyH_ready hr (by simp) (AllReadyH.cons ho (fun K' hK => by rw [if_pos hw]; exact h K' hK.out) (AllReadyH.cons hp (fun K' hK => by rw [if_pos hv]; exact k K' hK.out) AllReadyH.nil))

/-- '[]byte("..")' marks its block, wherever it lies. -/
theorem convert_mark (w : World) (g : Nat) (C : Array Value) (n c : Nat) (h : w.heap[g]? = some (.cells C 5 (0, 0))) :
    ∃ w', (convert 28 28 (.slice (some ⟨g, 0, none⟩) n c)).run Tryd.prog w = .ok (.slice (some ⟨g, 0, none⟩) n c) w' ∧
      w'.heap[g]? = some (.cells C 5 (C.size, C.size + 1)) ∧ (∀ i, i ≠ g → w'.heap[i]? = w.heap[i]?) ∧ w'.heap.size = w.heap.size ∧ ∀ b, b ≤ g → Below b w w' := by
  have hsh : w.shape? g = some (5, C.size) := by unfold World.shape?; rw [h]
  have hoth : ∀ i, i ≠ g → (w.freeze ⟨g, C.size, none⟩ 1).heap[i]? = w.heap[i]? := fun i hi => by
    unfold World.freeze
    rw [if_neg (by decide)]
    simp only [Array.getElem?_modify]
    rw [if_neg (Ne.symm hi)]
  refine ⟨w.freeze ⟨g, C.size, none⟩ 1, ?_, ?_, hoth, ?_, fun b hb => ⟨?_, ?_, ?_, ?_, fun i hi => hoth i (by omega)⟩⟩
  · simp [convert, run_underlying Tryd.underlying28, run_underlying Tryd.underlying5, markStringish, hsh]
  · unfold World.freeze
    rw [if_neg (by decide)]
    simp only [Array.getElem?_modify]
    rw [if_pos trivial, h]
    rfl
  · unfold World.freeze; rw [if_neg (by decide)]; simp
  · unfold World.freeze; rw [if_neg (by decide)]
  · unfold World.freeze; rw [if_neg (by decide)]
  · unfold World.freeze; rw [if_neg (by decide)]
  · unfold World.freeze; rw [if_neg (by decide)]; simp
end Go.Proofs.YtjjahcidncnogaaDoor
