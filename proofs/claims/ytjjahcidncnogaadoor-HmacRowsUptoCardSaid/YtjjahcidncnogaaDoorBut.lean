/- Worlds that a call has written on: below a block all is as it was, but one block; builders behind such a write. -/
import Derived.WalkKit
import Derived.Lib.OthersKept
import Derived.Lib.SmallJoins
namespace Go.Proofs.YtjjahcidncnogaaDoor
open Go.RowKit Go.Lib

/-- Below block b all is as it was, but for block K. -/
structure But (b K : Nat) (w w' : World) : Prop where
  os : w'.os = w.os
  tape : w'.tape = w.tape
  output : w'.output = w.output
  size : w.heap.size ≤ w'.heap.size
  block : ∀ i, i < b → i ≠ K → w'.heap[i]? = w.heap[i]?

theorem But.refl (b K : Nat) (w : World) : But b K w w := ⟨rfl, rfl, rfl, Nat.le_refl _, fun _ _ _ => rfl⟩
theorem But.trans {b K : Nat} {u v w : World} (h : But b K u v) (k : But b K v w) : But b K u w :=
  ⟨k.os.trans h.os, k.tape.trans h.tape, k.output.trans h.output, Nat.le_trans h.size k.size, fun i hi hn => (k.block i hi hn).trans (h.block i hi hn)⟩
theorem But.of {b K : Nat} {w w' : World} (h : Below b w w') : But b K w w' := ⟨h.os, h.tape, h.output, h.size, fun i hi _ => h.block i hi⟩
theorem But.set {b K : Nat} {u w : World} (h : But b K u w) {p : Addr} (hp : p.block = K ∨ b ≤ p.block) (v : Value) : But b K u (w.setCell p v) :=
  h.trans ⟨rfl, rfl, rfl, by simp [World.setCell], fun i hi hn => Below.heap_setCell _ _ _ _ (by omega)⟩
theorem But.drew {b K : Nat} {u w : World} (h : But b K u w) : But b K u w.drew := ⟨h.os, h.tape, h.output, h.size, h.block⟩
theorem But.below {b K B : Nat} {w w' : World} (h : But b K w w') (hK : B ≤ K) (hb : B ≤ b) : Below B w w' :=
  ⟨h.os, h.tape, h.output, h.size, fun i hi => h.block i (by omega) (by omega)⟩
theorem But.cell {b K : Nat} {w w' : World} (h : But b K w w') {p : Addr} (hp : p.block < b) (hn : p.block ≠ K) : w'.cell? p = w.cell? p := World.cell?_of_block (w := w) (h.block p.block hp hn)
theorem But.mono {b b' K : Nat} {w w' : World} (h : But b K w w') (hb : b' ≤ b) : But b' K w w' := ⟨h.os, h.tape, h.output, h.size, fun i hi hn => h.block i (by omega) hn⟩

/-- A builder stands where blocks below its base are written. -/
theorem builder_keeps {T e : TypeId} {B b : Nat} {bs : List Value} {w w' : World} (h : IsBuilderF T e B b bs w) (hk : ∀ i, B ≤ i → i < w.heap.size → w'.heap[i]? = w.heap[i]?) : IsBuilderF T e B b bs w' := by
  have hat : ∀ p, BuilderAtF T e B b p bs w → BuilderAtF T e B b p bs w' := by
    rintro p ⟨hB, v, hb, hown, hne⟩
    refine ⟨hB, v, (hk b hB (Array.getElem?_eq_some_iff.1 hb).1).trans hb, ⟨hown.1, ?_⟩, hne⟩
    rcases hown.2 with hn | ⟨g, cap, cur, fz, hv, hbg, hg, rest⟩
    · exact .inl hn
    · exact .inr ⟨g, cap, cur, fz, hv, hbg, (hk g hbg (Array.getElem?_eq_some_iff.1 hg).1).trans hg, rest⟩
  exact h.elim (fun x => .inl (hat _ x)) (fun x => .inr (hat _ x))
theorem builder_set {T e : TypeId} {B b : Nat} {bs : List Value} {w : World} (h : IsBuilderF T e B b bs w) {p : Addr} (hp : p.block < B) (v : Value) : IsBuilderF T e B b bs (w.setCell p v) :=
  builder_keeps h fun i hi _ => Below.heap_setCell _ _ _ _ (by omega)

theorem row_set {w : World} {g i : Nat} {cs : Array Value} {t : TypeId} {fr : Nat × Nat} (h : w.heap[g]? = some (.cells cs t fr)) (v : Value) : (w.setCell ⟨g, i, none⟩ v).heap[g]? = some (.cells (cs.setIfInBounds i v) t fr) := by
  exact Go.Joins.block_setCell h v
end Go.Proofs.YtjjahcidncnogaaDoor
