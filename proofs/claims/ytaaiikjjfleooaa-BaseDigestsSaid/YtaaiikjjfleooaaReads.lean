/- What the program and the document's answer tell of letters is one; and of what is no alphabet. -/
import Derived.Test.YtaaiikjjfleooaaBaseWrite
import Derived.Test.YtaaiikjjfleooaaRefRead
import Derived.Test.YtaaiikjjfleooaaReadIn
import Derived.Test.YtaaiikjjfleooaaRoomy
import Derived.Test.YtaaiikjjfleooaaSpot6
namespace Go.Proofs.Ytaaiikjjfleooaa
open Go.RowKit Go.Lib

set_option maxRecDepth 100000 in
theorem read_none (u : Int) (h0 : 0 ≤ u) (h1 : u ≤ 255) (h : u = 0 ∨ 4 ≤ u) (s : ByteArray) (w : World) :
    Calls Try.prog 20 #[.int .u8 u, .string s] w fun e w' => e = .returned (.tuple #[.slice none 0 0, .iface 35 (.int .i64 2)]) ∧ Below w.heap.size w w' := by
  have C := letters_none u h0 h1 h
  have HC := Lib.hid C
  clear C h h0 h1
  go_enter Try.func20, Try.ntmps20
  go_wp2_with fail
  refine (HC.out _).mono ?_
  rintro e w' ⟨rfl, hg⟩
  go_wp2_with fail
  go_ret2
  exact ⟨rfl, hg⟩

/-- The two answers. -/
def Both (a : Int) (q : Nat) (s : List UInt8) (B : Nat) (v e : Value) (w : World) (B' : Nat) (v' : Value) (n1 n2 : Int) (w' : World) : Prop :=
  (n1 ≠ 0 ∧ v = .slice none 0 0 ∧ e = .iface 78 (.agg #[.int .i64 n1, .int .i64 n2])) ∨
  (n1 = 0 ∧ e = .nilIface ∧ Good a s ∧ Fit q s.length ∧ Clean a q s ∧ (∃ g, B ≤ g ∧ v = .slice (some ⟨g, 0, none⟩) (readOf a q s).length (readOf a q s).length ∧ Whole g (readOf a q s) w) ∧
    ∃ g, B' ≤ g ∧ v' = .slice (some ⟨g, 0, none⟩) (readOf a q s).length (readOf a q s).length ∧ Whole g (readOf a q s) w')

theorem first_bad {a : Int} {s : List UInt8} {i j : Nat} {c d : UInt8} (hi : s[i]? = some c) (hc : no a c < 0) (gi : Good a (s.take i)) (hj : s[j]? = some d) (hd : no a d < 0) (gj : Good a (s.take j)) : i = j := by
  rcases Nat.lt_trichotomy i j with h | h | h
  · have : c ∈ s.take j := List.mem_of_getElem? (i := i) (by rw [List.getElem?_take, if_pos h]; exact hi)
    have := gj c this
    omega
  · exact h
  · have : d ∈ s.take i := List.mem_of_getElem? (i := j) (by rw [List.getElem?_take, if_pos h]; exact hj)
    have := gi d this
    omega

theorem good_not_bad {a : Int} {s : List UInt8} {i : Nat} {c : UInt8} (h : Good a s) (hi : s[i]? = some c) (hc : no a c < 0) : False := by
  have := h c (List.mem_of_getElem? hi)
  omega

theorem both_of {a : Int} {q : Nat} {s : List UInt8} {B : Nat} {v e : Value} {w : World} {B' : Nat} {v' : Value} {n1 n2 : Int} {w' : World} (h : ReadIn a q s B v e w) (k : RefAs a q s B' v' n1 n2 w') : Both a q s B v e w B' v' n1 n2 w' := by
  rcases h with ⟨i, c, h1, h2, h3, rfl, rfl⟩ | ⟨h1, h2, rfl, rfl⟩ | ⟨h1, h2, h3, rfl, rfl⟩ | ⟨h1, h2, h3, rfl, hg⟩ <;>
    rcases k with ⟨j, d, k1, k2, k3, rfl, rfl, rfl⟩ | ⟨k1, k2, rfl, rfl, rfl⟩ | ⟨k1, k2, k3, rfl, rfl, rfl⟩ | ⟨k1, k2, k3, rfl, rfl, kg⟩
  · have := first_bad h1 h2 h3 k1 k2 k3
    subst this
    exact .inl ⟨by decide, rfl, rfl⟩
  · exact (good_not_bad k1 h1 h2).elim
  · exact (good_not_bad k1 h1 h2).elim
  · exact (good_not_bad k1 h1 h2).elim
  · exact (good_not_bad h1 k1 k2).elim
  · exact .inl ⟨by decide, rfl, rfl⟩
  · exact absurd k2 h2
  · exact absurd k2 h2
  · exact (good_not_bad h1 k1 k2).elim
  · exact absurd h2 k2
  · exact .inl ⟨by decide, rfl, rfl⟩
  · exact absurd k3 h3
  · exact (good_not_bad h1 k1 k2).elim
  · exact absurd h2 k2
  · exact absurd h3 k3
  · exact .inr ⟨rfl, rfl, h1, h2, h3, hg, kg⟩

theorem in_good {a : Int} {q : Nat} {s : List UInt8} {B : Nat} {v e : Value} {w : World} (h : ReadIn a q s B v e w) (h1 : Good a s) (h2 : Fit q s.length) (h3 : Clean a q s) :
    e = .nilIface ∧ ∃ g, B ≤ g ∧ v = .slice (some ⟨g, 0, none⟩) (readOf a q s).length (readOf a q s).length ∧ Whole g (readOf a q s) w := by
  rcases h with ⟨i, c, k1, k2, k3, rfl, rfl⟩ | ⟨_, k2, _⟩ | ⟨_, _, k3, _⟩ | ⟨_, _, _, h4, hg⟩
  · exact (good_not_bad h1 k1 k2).elim
  · exact absurd h2 k2
  · exact absurd h3 k3
  · exact ⟨h4, hg⟩

theorem whole_bytes {g K b : Nat} {l : List UInt8} {w : World} (h : Whole g l w) (hb : g < b) (hK : g ≠ K) : Bytes b K (some ⟨g, 0, none⟩) l w := fun _ =>
  ⟨g, 0, rfl, hb, hK, fun j hj => by
    unfold Whole at h
    rw [cell_of_heap h, Nat.zero_add]
    simp [byteCells, List.getElem?_eq_getElem hj]⟩
theorem whole_set {g : Nat} {L : List UInt8} {w : World} (h : Whole g L w) (p : Nat) (b : UInt8) : Whole g (L.set p b) (w.setCell ⟨g, p, none⟩ (.int .u8 b.toNat)) := by
  unfold Whole at *
  rw [row_set (i := p) h]
  congr 2
  rw [List.setIfInBounds_toArray]
  congr 1
  simp [byteCells, List.map_set]
theorem whole_lt {g : Nat} {L : List UInt8} {w : World} (h : Whole g L w) : g < w.heap.size := (Array.getElem?_eq_some_iff.1 h).1
theorem Whole.keep {g : Nat} {L : List UInt8} {w w' : World} {B : Nat} (h : Whole g L w) (hb : Below B w w') (hg : g < B) : Whole g L w' := (hb.block g hg).trans h
end Go.Proofs.Ytaaiikjjfleooaa
