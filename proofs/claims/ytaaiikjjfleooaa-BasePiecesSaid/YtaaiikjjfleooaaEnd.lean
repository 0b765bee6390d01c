/- The contracts of base's writers: End, whole. -/
import Derived.Test.YtaaiikjjfleooaaPut
import Derived.Test.YtaaiikjjfleooaaShelf
namespace Go.Proofs.Ytaaiikjjfleooaa
open Go.RowKit Go.Lib

/-- The last letter, if one is not told yet. -/
def lastOf (q : Nat) (l : List UInt8) : List Nat := if left8 q l = 0 then [] else [val l * 2 ^ (q - left8 q l) % 2 ^ q]

theorem last_step (L : List UInt8) (q r : Nat) (hq0 : 4 ≤ q) (hq1 : q ≤ 6) (hr : r < q) :
    bits .and .u32 (↑(wbits L) * 2 ^ (q - r) % 4294967296) ((2 ^ q - 1) % 4294967296) = ↑(val L * 2 ^ (q - r) % 2 ^ q) := by
  have e1 : ((wbits L : Nat) : Int) * 2 ^ (q - r) % 4294967296 = ((wbits L * 2 ^ (q - r) % 4294967296 : Nat) : Int) := by
    rw [Int.natCast_emod, Int.natCast_mul, Int.natCast_pow]; rfl
  have e2 : ((2 : Int) ^ q - 1) % 4294967296 = ((2 ^ q - 1 : Nat) : Int) := by
    obtain rfl | rfl | rfl : q = 4 ∨ q = 5 ∨ q = 6 := by omega
    all_goals decide
  have b3 : (2 : Nat) ^ q ≤ 64 := by
    obtain rfl | rfl | rfl : q = 4 ∨ q = 5 ∨ q = 6 := by omega
    all_goals decide
  rw [e1, e2, u32_and_nat _ _ (Nat.mod_lt _ (by decide)) (by omega), Nat.and_two_pow_sub_one_eq_mod]
  unfold wbits
  congr 1
  have e3 : (2 : Nat) ^ q ∣ 4294967296 := ⟨2 ^ (32 - q), by rw [← Nat.pow_add, show q + (32 - q) = 32 from by omega]⟩
  rw [Nat.mod_mod_of_dvd _ e3, Nat.mul_mod, Nat.mod_mod_of_dvd _ e3, ← Nat.mul_mod]

theorem cut_one (s : ByteArray) (j : Nat) (h : j < s.size) : s.extract j (j + 1) = ⟨#[s[j]]⟩ := by
  obtain ⟨⟨l⟩⟩ := s
  have h' : j < l.length := h
  apply ByteArray.ext
  simp only [ByteArray.data_extract]
  apply Array.ext'
  simp only [Array.toList_extract, List.extract_eq_take_drop]
  rw [show j + 1 - j = 1 from by omega, List.drop_eq_getElem_cons h', List.take_succ_cons, List.take_zero]
  rfl

set_option maxRecDepth 100000 in
set_option maxHeartbeats 4000000 in
theorem end_some (a : Int) (q : Nat) (ha : (a = 1 ∧ q = 4) ∨ (a = 2 ∧ q = 5) ∨ (a = 3 ∧ q = 6)) (K : Nat) (l : List UInt8) (w : World)
    (hW : Wr a (wbits l) (left8 q l) K w) :
    Calls Try.prog 34 #[.pointer (some ⟨K, 0, none⟩)] w fun e w' => e = .returned (.string ⟨((lastOf q l).map (lett a)).toArray⟩) ∧ Wr a 0 0 K w' ∧ But w.heap.size K w w' := by
  have c0 : w.cell? ⟨K, 0, none⟩ = some (.int .u8 a) := by rw [cell_of_heap hW]; rfl
  have hKl : K < w.heap.size := (Array.getElem?_eq_some_iff.1 hW).1
  have hq0 : 4 ≤ q := by omega
  have hq1 : q ≤ 6 := by omega
  have HL := Lib.hid (letters_is a q ha)
  obtain ⟨r, hr⟩ : ∃ r, left8 q l = r := ⟨_, rfl⟩
  have hrq : r < q := by rw [← hr]; exact Nat.mod_lt _ (by omega)
  unfold lastOf
  rw [hr] at hW ⊢
  clear hr
  by_cases h0 : r = 0
  · subst h0
    rw [if_pos rfl]
    go_enter Try.func34, Try.ntmps34
    go_wp2_with fail
    refine (HL.out _).mono ?_
    rintro e w1 ⟨rfl, hb1⟩
    have hW1 : Wr a (wbits l) 0 K w1 := (hb1.block K hKl).trans hW
    have c1 : w1.cell? ⟨K, 1, none⟩ = some (.int .u32 (wbits l)) := by rw [cell_of_heap hW1]; rfl
    have c2 : w1.cell? ⟨K, 2, none⟩ = some (.int .u64 0) := by rw [cell_of_heap hW1]; rfl
    have f1 : w1.frozen? ⟨K, 1, none⟩ = false := frozen_of_heap hW1 1
    have f2 : w1.frozen? ⟨K, 2, none⟩ = false := frozen_of_heap hW1 2
    go_wp2_with fail
    go_returns
    exact ⟨rfl, row_set (i := 2) (row_set (i := 1) hW1 _) _, ((But.of hb1).set (p := ⟨K, 1, none⟩) (.inl rfl) _).set (p := ⟨K, 2, none⟩) (.inl rfl) _⟩
  · rw [if_neg h0]
    have hls := last_step l q r hq0 hq1 hrq
    obtain ⟨j, hj⟩ : ∃ j, val l * 2 ^ (q - r) % 2 ^ q = j := ⟨_, rfl⟩
    have hjl : j < (abc a).size := by rw [abc_size a q ha, ← hj]; exact Nat.mod_lt _ (Nat.two_pow_pos q)
    have hj64 : j < 64 := by
      have b3 : (2 : Nat) ^ q ≤ 64 := by
        obtain rfl | rfl | rfl : q = 4 ∨ q = 5 ∨ q = 6 := by omega
        all_goals decide
      rw [abc_size a q ha] at hjl
      omega
    have hst : ∀ w : World, (Instr.slice 9 (.string (abc a)) (some (.int .u32 (j : Int))) (some (.int .u32 ((j : Int) + 1))) none).run Try.prog w = .ok (.string ⟨#[lett a j]⟩) w := fun w => by
      rw [run_slice_string w 9 (abc a) .u32 .u32 (j : Int) ((j : Int) + 1) Try.underlying9 (by omega) (by omega) (by omega), lett_at a j hjl, ← cut_one _ _ hjl]
      rfl
    rw [hj] at hls ⊢
    clear hj
    have hr1 : 1 ≤ r := by omega
    have hr2 : decide (0 < (r : Int)) = true := by simp; omega
    go_enter Try.func34, Try.ntmps34
    go_wp2_with fail
    refine (HL.out _).mono ?_
    rintro e w1 ⟨rfl, hb1⟩
    have hW1 : Wr a (wbits l) r K w1 := (hb1.block K hKl).trans hW
    have c1 : w1.cell? ⟨K, 1, none⟩ = some (.int .u32 (wbits l)) := by rw [cell_of_heap hW1]; rfl
    have c2 : w1.cell? ⟨K, 2, none⟩ = some (.int .u64 r) := by rw [cell_of_heap hW1]; rfl
    have f1 : w1.frozen? ⟨K, 1, none⟩ = false := frozen_of_heap hW1 1
    have f2 : w1.frozen? ⟨K, 2, none⟩ = false := frozen_of_heap hW1 2
    go_wp2_with fail
    go_quiet (fail)
    go_wp2_with fail
    go_returns
    exact ⟨rfl, row_set (i := 2) (row_set (i := 1) hW1 _) _, ((But.of (below_drewN _ hb1)).set (p := ⟨K, 1, none⟩) (.inl rfl) _).set (p := ⟨K, 2, none⟩) (.inl rfl) _⟩

theorem heap_new {w : World} {n : Nat} (o : Obj) (hn : n = w.heap.size) : (w.alloc o).heap[n]? = some o := by subst hn; exact (MapKept.heap_alloc w o).1

theorem all_split (q : Nat) (l : List UInt8) : nums q l (8 * l.length / q) ++ lastOf q l = allNums q l := rfl

set_option maxRecDepth 100000 in
set_option maxHeartbeats 4000000 in
theorem whole_some (a : Int) (q : Nat) (ha : (a = 1 ∧ q = 4) ∨ (a = 2 ∧ q = 5) ∨ (a = 3 ∧ q = 6)) (p : Option Addr) (cap : Nat) (l : List UInt8) (w : World)
    (hB : Bytes w.heap.size w.heap.size p l w) (hlen : l.length ≤ 134217728) :
    Calls Try.prog 36 #[.int .u8 a, .slice p l.length cap] w fun e w' => e = .returned (.string ⟨((allNums q l).map (lett a)).toArray⟩) ∧ Below w.heap.size w w' := by
  obtain ⟨n1, hn1⟩ : ∃ n, l.length = n := ⟨_, rfl⟩
  have HN := Lib.hid hn1
  rw [hn1] at hlen ⊢
  clear hn1
  go_enter Try.func36, Try.ntmps36
  go_wp2_with fail
  rw [show ((n1 : Int) * 2 + 1) = ((n1 * 2 + 1 : Nat) : Int) from by omega]
  refine (Go.Proofs.Try.Builder_Grow_fresh (w.heap.size + 1) (w.heap.size + 1) (n1 * 2 + 1) _ (Nat.le_refl _) (heap_new _ (by simp)) (by simp) (by omega)).mono ?_
  rintro e w1 ⟨rfl, h1, hb1⟩
  go_wp2_with fail
  have hK1 : Wr a 0 0 w.heap.size w1 := (hb1.block w.heap.size (by omega)).trans ((alloc_old _ _ _ (by simp)).trans (heap_new _ rfl))
  have g1 : Below w.heap.size w w1 := (((Below.refl _ w).alloc (Nat.le_refl _) _).alloc (by simp) _).trans (hb1.mono (by omega))
  have hB1 : Bytes (w.heap.size + 1) w.heap.size p l w1 := by
    intro hl
    obtain ⟨pb, off, hp, h2, h3, hc⟩ := hB hl
    exact ⟨pb, off, hp, by omega, by omega, fun j h => (g1.cell (p := ⟨pb, off + j, none⟩) h2).trans (hc j h)⟩
  have P := put_some a q ha w.heap.size (w.heap.size + 1) p cap [] l [] w1 (by unfold wbits left8; simpa [val] using hK1) (.inr (BuilderAtF.of h1)) (by omega) hB1 (by rw [HN.out]; simp; omega)
  rw [HN.out] at P
  refine P.mono ?_
  clear P
  rintro e w2 ⟨rfl, hK2, hb2, hI2⟩
  go_wp2_with fail
  refine (end_some a q ha w.heap.size ([] ++ l) w2 hK2).mono ?_
  rintro e w3 ⟨rfl, hK3, hb3⟩
  have s1 := hb1.size
  have s2 := hb2.size
  have s3 := hb3.size
  have z1 : w.heap.size + 1 < w1.heap.size := h1.lt
  have g3 : But (w.heap.size + 1) w.heap.size w1 w3 := hb2.trans (hb3.mono (by omega))
  have g4 : Below w.heap.size w w3 := g1.trans (g3.below (Nat.le_refl _) (by omega))
  have hI3 := builder_keeps (w' := w3) hI2 fun i h2 h3 => hb3.block i h3 (by omega)
  simp only [List.nil_append, List.length_nil, Nat.mul_zero, Nat.zero_div, List.drop_zero] at hI3 ⊢
  have hq : 4 ≤ q ∧ q ≤ 6 := by omega
  have hl1 : (nums q l (8 * l.length / q)).length ≤ 2 * n1 := by
    rw [nums_length, HN.out]
    obtain ⟨h4, h6⟩ := hq
    obtain rfl | rfl | rfl : q = 4 ∨ q = 5 ∨ q = 6 := by omega
    all_goals omega
  have hl2 : (lastOf q l).length ≤ 1 := by unfold lastOf; split <;> simp
  go_wp2_with fail
  refine (writeString_any (w.heap.size + 1) (w.heap.size + 1) _ _ w3 hI3 (by rw [byteCells_length, List.length_map]; simp [ByteArray.size]; omega) (by omega)).mono ?_
  rintro e w4 ⟨rfl, hI4, hb4, -⟩
  have s4 := hb4.size
  have ec : byteCells ((nums q l (8 * l.length / q)).map (lett a)) ++ strCells ⟨((lastOf q l).map (lett a)).toArray⟩ = byteCells ((allNums q l).map (lett a)) := by
    rw [strCells_eq, ← byteCells_append, ← List.map_append, all_split]
  rw [ec] at hI4
  go_wp2_with fail
  refine (Go.Proofs.Try.Builder_String_any_k (w.heap.size + 1) (w.heap.size + 1) _ w4 hI4 (by omega)).mono ?_
  rintro e w5 ⟨rfl, -, hb5, -⟩
  go_wp2_with fail
  go_ret
  exact ⟨rfl, (g4.trans (hb4.mono (by omega))).trans (hb5.mono (by omega))⟩
end Go.Proofs.Ytaaiikjjfleooaa
