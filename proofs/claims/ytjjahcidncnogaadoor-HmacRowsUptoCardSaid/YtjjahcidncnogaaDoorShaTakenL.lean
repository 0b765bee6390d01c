/- Rows of bytes that are the same, parts that are one or two: lemmas. -/
import Derived.Test.YtjjahcidncnogaaDoorShaTab
import Derived.Test.YtjjahcidncnogaaDoorShaResume
import Derived.Test.YtjjahcidncnogaaDoorShaCmpL
import Derived.Test.YtjjahcidncnogaaDoorConcat
import Derived.Test.YtjjahcidncnogaaDoorHeld
namespace Go.Proofs.YtjjahcidncnogaaDoor
open Go.ChangeShapes Go.WideShapes Go.ChangeAt Go.RowKit Go.Lib

theorem bytes_in {b K : Nat} {p : Option Addr} {l : List UInt8} {w : World} (hB : Bytes b K p l w) : Lib.BytesIn w p l.length (bI l) := fun hn => by
  obtain ⟨pb, off, hp, _, _, hc⟩ := hB (by intro e; rw [e] at hn; simp at hn)
  refine ⟨pb, off, hp, fun i hi => ?_⟩
  rw [hc i hi]
  simp [bI, List.getD_eq_getElem?_getD, List.getElem?_eq_getElem hi]
theorem equal_same (b K b' K' : Nat) (p q : Option Addr) (l : List UInt8) (c d : Nat) (w : World) (hB : Bytes b K p l w) (hC : Bytes b' K' q l w) :
    Calls Tryd.prog 66 #[.slice p l.length c, .slice q l.length d] w fun e w' => e = .returned (.bool true) ∧ w' = w := by
  have h := Go.Proofs.Tryd.bytes_Equal_all p q l.length c l.length d (bI l) (bI l) w (bI_length l) (bI_length l) (bytes_in hB) (bytes_in hC)
  simpa using h
theorem parts_K {w : World} {B K : Nat} {p : Option Addr} {N : Nat} {P : Nat → Option Addr} {C : Nat → Nat} {L : Nat → List UInt8} {b0 : Nat} (h : Parts b0 p N P C L w) (hb : b0 ≤ B) (hk : ∀ pb, pb < b0 → (∃ o, p = some ⟨pb, o, none⟩) → pb ≠ K) (hK : ∀ i, i < N → Bytes B K (P i) (L i) w) : PartsK B K p N P C L w :=
  ⟨fun hN => let ⟨pb, off, hp, h1, h2⟩ := h.1 hN; ⟨pb, off, hp, by omega, hk pb h1 ⟨off, hp⟩, h2⟩, fun i hi => let ⟨_, h2, h3⟩ := h.2 i hi; ⟨hK i hi, h2, h3⟩⟩
theorem owns_cap {w : World} {B n c : Nat} {q : Option Addr} {xs : List Value} (h : w.ownsRow B 5 1 (.slice q n c) n xs) : n ≤ c := by
  rcases h.2 with ⟨h1, h0⟩ | ⟨g, cap, cur, h1, _, _, hc, _⟩
  · omega
  · simp only [Value.slice.injEq] at h1
    omega
/-- One part, for a hash that lies elsewhere. -/
theorem parts_oneK {w : World} {g b K : Nat} {p : Option Addr} {l : List UInt8} {c : Nat} (hc : w.cell? ⟨g, 0, none⟩ = some (.slice p l.length c)) (hg : g < b) (hgK : g ≠ K) (hB : Bytes b K p l w) (hl : l.length ≤ c) (hm : l.length ≤ 140737488351232) :
    PartsK b K (some ⟨g, 0, none⟩) 1 (fun _ => p) (fun _ => c) (fun _ => l) w :=
  ⟨fun _ => ⟨g, 0, rfl, hg, hgK, fun i hi => by obtain rfl : i = 0 := by omega
                                                exact hc⟩, fun _ _ => ⟨hB, hl, hm⟩⟩
theorem wpList_world {P : Program} {ops : Array Oper} {Q : Exit → Act → World → Prop} {l : List Oper} {a : Act} {w v : World} (h : w = v) (hc : wpList P ops Q l a v) : wpList P ops Q l a w := h ▸ hc
theorem heap_last (w : World) (o : Obj) : (w.alloc o).heap[w.heap.size]? = some o := (MapKept.heap_alloc w o).1

/-- Two parts, in a block of their own. -/
def pairF {α : Type} (x y : α) (i : Nat) : α := if i = 0 then x else y
theorem cat_two (l m : List UInt8) : cat (pairF l m) 2 = l ++ m := rfl
theorem parts_two {w : World} {g b : Nat} {p q : Option Addr} {l m : List UInt8} {c d : Nat} (h0 : w.cell? ⟨g, 0, none⟩ = some (.slice p l.length c)) (h1 : w.cell? ⟨g, 1, none⟩ = some (.slice q m.length d)) (hg : g < b)
    (hB : Bytes b b p l w) (hC : Bytes b b q m w) (hl : l.length ≤ c) (hm : m.length ≤ d) (hl2 : l.length ≤ 140737488351232) (hm2 : m.length ≤ 140737488351232) :
    Parts b (some ⟨g, 0, none⟩) 2 (pairF p q) (pairF c d) (pairF l m) w :=
  ⟨fun _ => ⟨g, 0, rfl, hg, fun i hi => by
      obtain rfl | rfl : i = 0 ∨ i = 1 := by omega
      · exact h0
      · exact h1⟩, fun i hi => by
      obtain rfl | rfl : i = 0 ∨ i = 1 := by omega
      · exact ⟨hB, hl, hl2⟩
      · exact ⟨hC, hm, hm2⟩⟩
theorem sum_one (a : Option Addr) (c : Nat) (l : List UInt8) (W : World) (hT : Tab W) (hB : Bytes W.heap.size W.heap.size a l W) (hc : l.length ≤ c) (hm : l.length ≤ 140737488351232) (w : World) (hw : Below W.heap.size W w) :
    Calls Tryd.prog 22 #[.slice (some ⟨w.heap.size, 0, none⟩) 1 1] (w.alloc (.cells #[.slice a l.length c] 28)) fun e w' => e = .returned (dig (sumI firstI 0 l)) ∧ Below w.heap.size w w' := by
  have hg : Below W.heap.size W (w.alloc (.cells #[.slice a l.length c] 28)) := hw.alloc hw.size _
  have hs := hg.size
  refine (sums_any _ 1 1 (by decide) (fun _ => a) (fun _ => c) (fun _ => l) _ (hT.below hg) (parts_one (by rw [cell_of_heap (heap_last _ _)]; rfl) (by simp) ((hB.keep hg).at hs hs) hc hm)).mono ?_
  rintro e w' ⟨rfl, hb⟩
  refine ⟨by rw [cat_one]; rfl, ?_⟩
  exact ((Below.refl _ w).alloc (Nat.le_refl _) _).trans (hb.mono (by simp))
theorem sum_two (a : Option Addr) (c : Nat) (l : List UInt8) (a2 : Option Addr) (c2 : Nat) (l2 : List UInt8) (W : World) (hT : Tab W) (hB : Bytes W.heap.size W.heap.size a l W) (hc : l.length ≤ c) (hm : l.length ≤ 140737488351232)
    (hB2 : Bytes W.heap.size W.heap.size a2 l2 W) (hc2 : l2.length ≤ c2) (hm2 : l2.length ≤ 140737488351232) (w : World) (hw : Below W.heap.size W w) :
    Calls Tryd.prog 22 #[.slice (some ⟨w.heap.size, 0, none⟩) 2 2] (w.alloc (.cells #[.slice a l.length c, .slice a2 l2.length c2] 28)) fun e w' => e = .returned (dig (sumI firstI 0 (l ++ l2))) ∧ Below w.heap.size w w' := by
  have hg : Below W.heap.size W (w.alloc (.cells #[.slice a l.length c, .slice a2 l2.length c2] 28)) := hw.alloc hw.size _
  have hs := hg.size
  refine (sums_any _ 2 2 (by decide) (pairF a a2) (pairF c c2) (pairF l l2) _ (hT.below hg) (parts_two (by rw [cell_of_heap (heap_last _ _)]; rfl) (by rw [cell_of_heap (heap_last _ _)]; rfl) (by simp) ((hB.keep hg).at hs hs) ((hB2.keep hg).at hs hs) hc hc2 hm hm2)).mono ?_
  rintro e w' ⟨rfl, hb⟩
  refine ⟨by rw [cat_two]; rfl, ?_⟩
  exact ((Below.refl _ w).alloc (Nat.le_refl _) _).trans (hb.mono (by simp))
theorem sum_none (W : World) (hT : Tab W) (w : World) (hw : Below W.heap.size W w) :
    Calls Tryd.prog 22 #[.slice none 0 0] w fun e w' => e = .returned (dig (sumI firstI 0 [])) ∧ Below w.heap.size w w' :=
  sums_any none 0 0 (by decide) (fun _ => none) (fun _ => 0) (fun _ => []) w (hT.below hw) ⟨fun h => absurd h (by decide), fun i hi => absurd hi (by omega)⟩
end Go.Proofs.YtjjahcidncnogaaDoor
