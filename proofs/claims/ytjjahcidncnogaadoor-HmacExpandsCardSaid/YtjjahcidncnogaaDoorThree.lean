/- Three parts in a block of their own; what an expanded key is made of. -/
import Derived.Test.YtjjahcidncnogaaDoorMacX
namespace Go.Proofs.YtjjahcidncnogaaDoor
open Go.ChangeShapes Go.WideShapes Go.ChangeAt Go.RowKit Go.Lib

/-- Three parts, in a block of their own. -/
def threeF {α : Type} (x y z : α) (i : Nat) : α := if i = 0 then x else if i = 1 then y else z
theorem cat_threeF (l m k : List UInt8) : cat (threeF l m k) 3 = l ++ m ++ k := rfl
theorem parts_threeF {w : World} {g b : Nat} {p q r : Option Addr} {l m k : List UInt8} {c d e : Nat} (h0 : w.cell? ⟨g, 0, none⟩ = some (.slice p l.length c)) (h1 : w.cell? ⟨g, 1, none⟩ = some (.slice q m.length d)) (h2 : w.cell? ⟨g, 2, none⟩ = some (.slice r k.length e)) (hg : g < b)
    (hB : Bytes b b p l w) (hC : Bytes b b q m w) (hD : Bytes b b r k w) (hl : l.length ≤ c) (hm : m.length ≤ d) (hk : k.length ≤ e) (hl2 : l.length ≤ 140737488351232) (hm2 : m.length ≤ 140737488351232) (hk2 : k.length ≤ 140737488351232) :
    Parts b (some ⟨g, 0, none⟩) 3 (threeF p q r) (threeF c d e) (threeF l m k) w :=
  ⟨fun _ => ⟨g, 0, rfl, hg, fun i hi => by
      obtain rfl | rfl | rfl : i = 0 ∨ i = 1 ∨ i = 2 := by omega
      · exact h0
      · exact h1
      · exact h2⟩, fun i hi => by
      obtain rfl | rfl | rfl : i = 0 ∨ i = 1 ∨ i = 2 := by omega
      · exact ⟨hB, hl, hl2⟩
      · exact ⟨hC, hm, hm2⟩
      · exact ⟨hD, hk, hk2⟩⟩
/-- The pieces of an expanded key, and them one behind the other. -/
def lastL (key info : List UInt8) : Nat → List UInt8
  | 0 => []
  | k + 1 => hmacL key (lastL key info k ++ info ++ [UInt8.ofNat (k + 1)])
def outL (key info : List UInt8) : Nat → List UInt8
  | 0 => []
  | k + 1 => outL key info k ++ lastL key info (k + 1)
theorem hmacL_length (key m : List UInt8) : (hmacL key m).length = 32 := sumI_length _ _ _
theorem lastL_length (key info : List UInt8) (k : Nat) : (lastL key info (k + 1)).length = 32 := hmacL_length _ _
theorem lastL_le (key info : List UInt8) (k : Nat) : (lastL key info k).length ≤ 32 := by
  cases k with
  | zero => exact Nat.zero_le _
  | succ k => exact Nat.le_of_eq (lastL_length key info k)
theorem outL_length (key info : List UInt8) : ∀ k, (outL key info k).length = 32 * k
  | 0 => rfl
  | k + 1 => by rw [outL, List.length_append, outL_length key info k, lastL_length]; omega
/-- n bytes of an expanded key. -/
def expL (key info : List UInt8) (n : Nat) : List UInt8 := (outL key info ((n + 31) / 32)).take n
theorem expL_length (key info : List UInt8) (n : Nat) : (expL key info n).length = n := by
  unfold expL
  rw [List.length_take, outL_length]
  omega
theorem outL_more (key info : List UInt8) (k : Nat) : ∀ j, (outL key info (k + j)).take (32 * k) = outL key info k
  | 0 => by rw [Nat.add_zero, List.take_of_length_le (by rw [outL_length]; exact Nat.le_refl _)]
  | j + 1 => by
    rw [show k + (j + 1) = (k + j) + 1 from rfl, outL, List.take_append_of_le_length (by rw [outL_length]; omega)]
    exact outL_more key info k j
/-- A row of the call's own, cut. -/
theorem owns_short {w : World} {B n k : Nat} {q : Option Addr} {c : Nat} {L : List UInt8} (h : w.ownsRow B 5 1 (.slice q n c) n (Go.Lib.byteCells L)) (hk : k ≤ n) (h0 : q = none → k = 0 ∧ c = 0) (hL : L.length = n) : w.ownsRow B 5 1 (.slice q k c) k (Go.Lib.byteCells (L.take k)) := by
  refine ⟨by rw [bc_len, List.length_take]; omega, ?_⟩
  rcases h.2 with ⟨hv, hn⟩ | ⟨g, cap, cur, hv, hB, hg, hn, hm, hs, ht⟩
  · simp only [Value.slice.injEq] at hv
    obtain ⟨rfl, rfl, rfl⟩ := hv
    left
    obtain ⟨rfl, -⟩ := h0 rfl
    exact ⟨rfl, rfl⟩
  · simp only [Value.slice.injEq] at hv
    obtain ⟨rfl, -, rfl⟩ := hv
    right
    refine ⟨g, c, cur, rfl, hB, hg, by omega, hm, hs, ?_⟩
    have h2 : Go.Lib.byteCells (L.take k) = (Go.Lib.byteCells L).take k := by unfold Go.Lib.byteCells; rw [List.map_take]
    rw [h2, ← ht, Nat.mul_one, Nat.mul_one, List.take_take, Nat.min_eq_left hk]
theorem owns_kind {w : World} {B n : Nat} {v : Value} {xs : List Value} {e : TypeId} (h : w.ownsRow B e 1 v n xs) {k : Nat} (hk : v.ownBlock = some k) : ∃ cur, w.heap[k]? = some (.cells cur e (0, 0)) := by
  rcases h.2 with ⟨rfl, _⟩ | ⟨g, cap, cur, rfl, _, hh, _⟩
  · cases hk
  · cases hk; exact ⟨cur, hh⟩
/-- out[:0] of none. -/
theorem slice_none0 (w : World) : (Instr.sliceAt 28 (.slice none 0 0) none (some (.int .i64 0)) none).run Tryd.prog w = .ok (.slice none 0 0) w := by
  rw [run_sliceAt_slice w 28 _ _ _ _ sliceElem, run_slice_h w 28 none 0 0 sliceElem .i64 0 (by omega) (by omega), sliceSize]
  simp [Result.andThen, sliced]
end Go.Proofs.YtjjahcidncnogaaDoor
