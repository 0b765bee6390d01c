/- The contracts of base.New and of a writer's Put; a row of the call's own behind what others write. -/
import Derived.Test.YtaaiikjjfleooaaBaseWrite
import Derived.Test.YtaaiikjjfleooaaRefWrite
import Derived.Test.YtaaiikjjfleooaaRoomy
namespace Go.Proofs.Ytaaiikjjfleooaa
open Go.RowKit Go.Lib

set_option maxRecDepth 100000 in
theorem new_none (u : Int) (h0 : 0 ≤ u) (h1 : u ≤ 255) (h : u = 0 ∨ 4 ≤ u) (w : World) :
    Calls Try.prog 32 #[.int .u8 u] w fun e w' => e = .returned (.tuple #[.pointer none, .iface 35 (.int .i64 2)]) ∧ Below w.heap.size w w' := by
  have C := letters_none u h0 h1 h
  have HC := Lib.hid C
  clear C h h0 h1
  go_enter Try.func32, Try.ntmps32
  go_wp2_with fail
  refine (HC.out _).mono ?_
  rintro e w' ⟨rfl, hg⟩
  go_wp2_with fail
  go_ret2
  exact ⟨rfl, hg⟩

set_option maxRecDepth 100000 in
set_option maxHeartbeats 1000000 in
theorem new_some (a : Int) (q : Nat) (ha : (a = 1 ∧ q = 4) ∨ (a = 2 ∧ q = 5) ∨ (a = 3 ∧ q = 6)) (w : World) :
    Calls Try.prog 32 #[.int .u8 a] w fun e w' => ∃ K, e = .returned (.tuple #[.pointer (some ⟨K, 0, none⟩), .nilIface]) ∧ w.heap.size ≤ K ∧ Wr a 0 0 K w' ∧ Below w.heap.size w w' := by
  have HC := Lib.hid (letters_is a q ha)
  clear ha
  go_enter Try.func32, Try.ntmps32
  go_wp2_with fail
  refine (HC.out _).mono ?_
  rintro e w1 ⟨rfl, hg⟩
  go_wp2_with fail
  go_ret2
  exact ⟨w1.heap.size, rfl, hg.size, heap_new _ rfl, hg.alloc hg.size _⟩

theorem fresh_F (w : World) : IsBuilderF 87 5 w.heap.size w.heap.size [] (w.alloc (.cells #[.pointer none, .slice none 0 0] 87)) := by
  rcases fresh_isBuilder 87 5 w with h | h
  · exact .inl (BuilderAtF.of h)
  · exact .inr (BuilderAtF.of h)

/-- The letters that a piece tells. -/
def told (a : Int) (q : Nat) (l0 l1 : List UInt8) : ByteArray := ⟨(((nums q (l0 ++ l1) (8 * (l0 ++ l1).length / q)).drop (8 * l0.length / q)).map (lett a)).toArray⟩

set_option maxRecDepth 100000 in
set_option maxHeartbeats 1000000 in
theorem put_piece (a : Int) (q : Nat) (ha : (a = 1 ∧ q = 4) ∨ (a = 2 ∧ q = 5) ∨ (a = 3 ∧ q = 6)) (K : Nat) (p : Option Addr) (cap : Nat) (l0 l1 : List UInt8) (w : World)
    (hW : Wr a (wbits l0) (left8 q l0) K w) (hB : Bytes w.heap.size K p l1 w) (hlen : l1.length ≤ 134217728) :
    Calls Try.prog 33 #[.pointer (some ⟨K, 0, none⟩), .slice p l1.length cap] w fun e w' => e = .returned (.string (told a q l0 l1)) ∧ Wr a (wbits (l0 ++ l1)) (left8 q (l0 ++ l1)) K w' ∧ But w.heap.size K w w' := by
  have hK : K < w.heap.size := (Array.getElem?_eq_some_iff.1 hW).1
  obtain ⟨v, hv⟩ : ∃ v, v = w.alloc (.cells #[.pointer none, .slice none 0 0] 87) := ⟨_, rfl⟩
  have gv : Below w.heap.size w v := by rw [hv]; go_grown
  have hsz : v.heap.size = w.heap.size + 1 := by rw [hv]; simp
  have hWv : Wr a (wbits l0) (left8 q l0) K v := (gv.block K hK).trans hW
  have hI : IsBuilderF 87 5 w.heap.size w.heap.size (byteCells []) v := by rw [hv]; exact fresh_F w
  have hBv : Bytes w.heap.size K p l1 v := fun hne =>
    let ⟨pb, off, hp, h1, h2, hc⟩ := hB hne
    ⟨pb, off, hp, h1, h2, fun j hj => (gv.cell (p := ⟨pb, off + j, none⟩) h1).trans (hc j hj)⟩
  have HP := Lib.hid (put_some a q ha K w.heap.size p cap l0 l1 [] v hWv hI hK hBv (by simp; omega))
  obtain ⟨Z, hZ⟩ : ∃ Z, ((nums q (l0 ++ l1) (8 * (l0 ++ l1).length / q)).drop (8 * l0.length / q)).map (lett a) = Z := ⟨_, rfl⟩
  unfold told
  rw [hZ] at HP ⊢
  clear hZ
  obtain ⟨n, hn⟩ : ∃ n, l1.length = n := ⟨_, rfl⟩
  rw [hn] at HP ⊢
  clear hB hBv hWv hI hW ha
  go_enter Try.func33, Try.ntmps33
  go_wp2_with fail
  rw [← hv]
  clear hv
  refine HP.out.mono ?_
  rintro e w2 ⟨rfl, hW2, hb2, hI2⟩
  have hs2 := hb2.size
  rw [show ([] : List UInt8) ++ Z = Z from rfl] at hI2
  go_wp2_with fail
  refine (Go.Proofs.Try.Builder_String_any_k w.heap.size w.heap.size _ w2 hI2 (by omega)).mono ?_
  rintro e w3 ⟨rfl, -, hb3, -⟩
  go_wp2_with fail
  go_ret
  exact ⟨rfl, (hb3.block K hK).trans hW2, ((But.of gv).trans hb2).trans (But.of hb3)⟩

/-- A row of the call's own, where what it lies in stays. -/
theorem owns_keeps {w w' : World} {B n : Nat} {v : Value} {xs : List Value} (h : w.ownsRow B 5 1 v n xs) (hk : ∀ i, B ≤ i → i < w.heap.size → w'.heap[i]? = w.heap[i]?) : w'.ownsRow B 5 1 v n xs := by
  refine ⟨h.1, ?_⟩
  rcases h.2 with hn | ⟨g, cap, cur, hv, hB, hg, rest⟩
  · exact .inl hn
  · exact .inr ⟨g, cap, cur, hv, hB, (hk g hB (Array.getElem?_eq_some_iff.1 hg).1).trans hg, rest⟩

theorem nums_more (k : Nat) (l0 : List UInt8) (m : Nat) (h : k * m ≤ 8 * l0.length) (l1 : List UInt8) : nums k (l0 ++ l1) m = nums k l0 m := by
  refine snoc_ind (P := fun l1 => nums k (l0 ++ l1) m = nums k l0 m) (by rw [List.append_nil]) (fun l b ih => ?_) l1
  rw [← List.append_assoc, nums_snoc k (l0 ++ l) b m (by rw [List.length_append]; omega), ih]

theorem nums_take (k : Nat) (l : List UInt8) (m n : Nat) (h : m ≤ n) : (nums k l n).take m = nums k l m := by
  unfold nums
  rw [← List.map_take, List.take_range, Nat.min_eq_left h]

/-- What was told so far and what is told of a piece: what is sure of both. -/
theorem told_more (a : Int) (q : Nat) (l0 l1 : List UInt8) :
    (⟨((nums q l0 (8 * l0.length / q)).map (lett a)).toArray⟩ : ByteArray) ++ told a q l0 l1 = ⟨((nums q (l0 ++ l1) (8 * (l0 ++ l1).length / q)).map (lett a)).toArray⟩ := by
  have hm : 8 * l0.length / q ≤ 8 * (l0 ++ l1).length / q := Nat.div_le_div_right (by rw [List.length_append]; omega)
  have h1 : nums q l0 (8 * l0.length / q) = (nums q (l0 ++ l1) (8 * (l0 ++ l1).length / q)).take (8 * l0.length / q) := by
    rw [nums_take q _ _ _ hm, nums_more q l0 _ (Nat.mul_div_le _ _)]
  unfold told
  rw [h1]
  generalize nums q (l0 ++ l1) (8 * (l0 ++ l1).length / q) = Z
  apply ByteArray.ext
  simp only [ByteArray.data_append]
  apply Array.ext'
  simp only [Array.toList_append]
  rw [← List.map_append, List.take_append_drop]

theorem cut_sure (a : Int) (q : Nat) (l : List UInt8) : (lettersOf a q l).extract 0 (8 * l.length / q) = ⟨((nums q l (8 * l.length / q)).map (lett a)).toArray⟩ := by
  unfold lettersOf
  apply ByteArray.ext
  simp only [ByteArray.data_extract]
  apply Array.ext'
  simp only [Array.toList_extract, List.extract_eq_take_drop]
  rw [List.drop_zero, Nat.sub_zero, ← List.map_take, ← all_split, List.take_append_of_le_length (by rw [nums_length]; exact Nat.le_refl _), List.take_of_length_le (by rw [nums_length]; exact Nat.le_refl _)]
end Go.Proofs.Ytaaiikjjfleooaa
